package inflate

import (
	"slices"
	"strings"

	"engrosser/api"
)

// In these tests bits are told as digits, in the order in which they are read.

// bitsOf answers the bits of s, the lowest one of each byte first.
func bitsOf(s string) string {
	b := make([]byte, 8*len(s))
	for i := range b {
		b[i] = '0' + s[i/8]>>(i%8)&1
	}
	return string(b)
}

// packed answers the text with such bits. What fills up the last byte are bits as told.
func packed(bits string, fill byte) string {
	b := make([]byte, (len(bits)+7)/8)
	for i := range 8 * len(b) {
		digit := fill
		if i < len(bits) {
			digit = bits[i]
		}
		b[i/8] |= (digit - '0') << (i % 8)
	}
	return string(b)
}

// text answers the text with such bits, and zeros behind the last one.
func text(bits ...string) string { return packed(strings.Join(bits, ""), '0') }

// number answers the bits of a number, the lowest one first.
func number(n, size int) string {
	var b strings.Builder
	for i := range size {
		b.WriteByte('0' + byte(n>>i&1))
	}
	return b.String()
}

// codesOf answers each symbol's code, one length behind the other, in the words of chapter 9; nothing of a length 0. Of lengths that make no code some codes begin with others.
func codesOf(lengths []int) []string {
	codes := make([]string, len(lengths))
	behind := 0
	for n := 1; n <= 15; n++ {
		behind *= 2
		for i, length := range lengths {
			if length == n {
				code := make([]byte, n)
				for bit := range code {
					code[bit] = '0' + byte(behind>>(n-1-bit)&1)
				}
				codes[i] = string(code)
				behind++
			}
		}
	}
	return codes
}

// areCode tells whether chapter 9 makes a code of lengths.
func areCode(lengths []int) bool {
	sum, count := 0, 0
	for _, n := range lengths {
		if n != 0 {
			sum += 1 << 15 >> n
			count++
		}
	}
	return sum == 1<<15 || count == 0 || count == 1 && slices.Contains(lengths, 1)
}

// repeated answers so many of n.
func repeated(n, count int) []int { return slices.Repeat([]int{n}, count) }

// fixedLengths are those of symbols in a block of kind 1, fixedBack those of distances.
var (
	fixedLengths = slices.Concat(repeated(8, 144), repeated(9, 256-144), repeated(7, 280-256), repeated(8, 288-280))
	fixedBack    = repeated(5, 32)
)

// fixedSymbols and fixedDistances are what each code in such a block means.
var fixedSymbols, fixedDistances = symbolsOf(fixedLengths), symbolsOf(fixedBack)

// lengthRows and distanceRows tell, row by row, how many symbols have how many bits more.
var (
	lengthRows   = [][2]int{{8, 0}, {4, 1}, {4, 2}, {4, 3}, {4, 4}, {4, 5}}
	distanceRows = [][2]int{{4, 0}, {2, 1}, {2, 2}, {2, 3}, {2, 4}, {2, 5}, {2, 6}, {2, 7}, {2, 8}, {2, 9}, {2, 10}, {2, 11}, {2, 12}, {2, 13}}
)

// wordsTable answers the base and the bits more of each symbol of such rows: each base is the one ahead of it, and 2 to the power of that one's bits.
func wordsTable(first int, rows [][2]int) [][2]int {
	var table [][2]int
	for _, row := range rows {
		for range row[0] {
			table = append(table, [2]int{first, row[1]})
			first += 1 << row[1]
		}
	}
	return table
}

// wordsLengths are those from symbol 257 on, wordsDistances those from 0 on.
var (
	wordsLengths   = append(wordsTable(3, lengthRows), [2]int{258, 0})
	wordsDistances = wordsTable(1, distanceRows)
)

// order is that of P10.2.
var order = []int{16, 17, 18, 0, 8, 7, 9, 6, 10, 5, 11, 4, 12, 3, 13, 2, 14, 1, 15}

// wordsReader is what wordsOpen has read and said. Each fault is a panic.
type wordsReader struct {
	bits string
	at   int
	said []byte
	most int
}

// wordsOpen answers Open in the chapter's words, bit by bit.
func wordsOpen(s string, most int) (out string, used int, e api.Errno) {
	if most < 0 || most > 1<<20 {
		return "", 0, api.ErrArg
	}
	defer func() {
		switch fault := recover().(type) {
		case nil:
		case api.Errno:
			out, used, e = "", 0, fault
		default:
			panic(fault)
		}
	}()
	w := &wordsReader{bits: bitsOf(s), most: most}
	for last := false; !last; {
		last = w.take(1) == "1"
		switch w.number(2) {
		case 0:
			w.stored()
		case 1:
			w.symbols(fixedSymbols, fixedDistances)
		case 2:
			w.told()
		case 3:
			panic(api.ErrForm)
		}
	}
	for used = 0; 8*used < w.at; used++ {
	}
	return string(w.said), used, api.OK
}

func (w *wordsReader) take(size int) string {
	if w.at+size > len(w.bits) {
		panic(api.ErrForm)
	}
	w.at += size
	return w.bits[w.at-size : w.at]
}

func (w *wordsReader) number(size int) int {
	n := 0
	for i, digit := range w.take(size) {
		if digit == '1' {
			n += 1 << i
		}
	}
	return n
}

func (w *wordsReader) say(b byte) {
	if len(w.said) == w.most {
		panic(api.ErrLong)
	}
	w.said = append(w.said, b)
}

// symbol reads a code of such ones.
func (w *wordsReader) symbol(known map[string]int) int {
	code := ""
	for range 15 {
		code += w.take(1)
		if i, ok := known[code]; ok {
			return i
		}
	}
	panic(api.ErrForm)
}

// symbolsOf answers which symbol each code of such lengths means.
func symbolsOf(lengths []int) map[string]int {
	if !areCode(lengths) {
		panic(api.ErrForm)
	}
	known := map[string]int{}
	for i, code := range codesOf(lengths) {
		if code != "" {
			known[code] = i
		}
	}
	return known
}

func (w *wordsReader) stored() {
	for w.at%8 != 0 {
		w.take(1)
	}
	n := w.number(16)
	if w.number(16) != 65535-n {
		panic(api.ErrForm)
	}
	for range n {
		w.say(byte(w.number(8)))
	}
}

func (w *wordsReader) told() {
	symbols, distances, count := 257+w.number(5), 1+w.number(5), 4+w.number(4)
	if symbols > 286 || distances > 30 {
		panic(api.ErrForm)
	}
	ofLengths := make([]int, 19)
	for _, i := range order[:count] {
		ofLengths[i] = w.number(3)
	}
	known := symbolsOf(ofLengths)
	var lengths []int
	for len(lengths) < symbols+distances {
		switch symbol := w.symbol(known); symbol {
		case 16:
			if len(lengths) == 0 {
				panic(api.ErrForm)
			}
			lengths = append(lengths, repeated(lengths[len(lengths)-1], 3+w.number(2))...)
		case 17:
			lengths = append(lengths, repeated(0, 3+w.number(3))...)
		case 18:
			lengths = append(lengths, repeated(0, 11+w.number(7))...)
		default:
			lengths = append(lengths, symbol)
		}
	}
	if len(lengths) > symbols+distances || lengths[256] == 0 {
		panic(api.ErrForm)
	}
	w.symbols(symbolsOf(lengths[:symbols]), symbolsOf(lengths[symbols:]))
}

// symbols reads up to a block's end.
func (w *wordsReader) symbols(known, knownBack map[string]int) {
	for {
		symbol := w.symbol(known)
		switch {
		case symbol == 256:
			return
		case symbol < 256:
			w.say(byte(symbol))
			continue
		}
		size := w.more(wordsLengths, symbol-257)
		far := w.more(wordsDistances, w.symbol(knownBack))
		if far > len(w.said) {
			panic(api.ErrForm)
		}
		for range size {
			w.say(w.said[len(w.said)-far])
		}
	}
}

// more reads what symbol n of a table says.
func (w *wordsReader) more(table [][2]int, n int) int {
	if n >= len(table) {
		panic(api.ErrForm)
	}
	return table[n][0] + w.number(table[n][1])
}
