package inflate

import (
	"slices"

	"engrosser/api"
	"engrosser/byhand"
)

// The beginnings of blocks: is it the last one, and of which kind.
const (
	storedBlock, lastStored = "000", "100"
	fixedBlock, lastFixed   = "010", "110"
	toldBlock, lastTold     = "001", "101"
	wrongBlock, lastWrong   = "011", "111"
)

// run is a symbol by which lengths are told, and the number behind it.
type run = byhand.Run

// fixed is the packer of blocks of kind 1.
var fixed = byhand.Fixed()

// fixedSymbols and fixedDistances are what each code in such a block means.
var fixedSymbols, fixedDistances = fixedMeaning()

func fixedMeaning() (symbols, distances map[string]int) {
	lengths, back := byhand.FixedLengths()
	return symbolsOf(lengths), symbolsOf(back)
}

// areCode tells whether chapter 9 makes a code of lengths.
func areCode(lengths []int) bool {
	sum, count := 0, 0
	for _, n := range lengths {
		if n != 0 {
			sum += 1 << 15 >> n
			count++
		}
	}
	return sum == 1<<15 || count == 0 || count == 1 && slices.Contains(lengths, 1)
}

// repeated answers so many of n.
func repeated(n, count int) []int { return slices.Repeat([]int{n}, count) }

// wordsLengths are those from symbol 257 on, wordsDistances those from 0 on.
var wordsLengths, wordsDistances = byhand.Lengths(), byhand.Distances()

// order is that of P10.2.
var order = byhand.Order()

// wordsReader is what wordsOpen has read and said. Each fault is a panic.
type wordsReader struct {
	bits string
	at   int
	said []byte
	most int
}

// wordsOpen answers Open in the chapter's words, bit by bit.
func wordsOpen(s string, most int) (out string, used int, e api.Errno) {
	if most < 0 || most > 1<<20 {
		return "", 0, api.ErrArg
	}
	defer func() {
		switch fault := recover().(type) {
		case nil:
		case api.Errno:
			out, used, e = "", 0, fault
		default:
			panic(fault)
		}
	}()
	w := &wordsReader{bits: byhand.Bits(s), most: most}
	for last := false; !last; {
		last = w.take(1) == "1"
		switch w.number(2) {
		case 0:
			w.stored()
		case 1:
			w.symbols(fixedSymbols, fixedDistances)
		case 2:
			w.told()
		case 3:
			panic(api.ErrForm)
		}
	}
	for used = 0; 8*used < w.at; used++ {
	}
	return string(w.said), used, api.OK
}

func (w *wordsReader) take(size int) string {
	if w.at+size > len(w.bits) {
		panic(api.ErrForm)
	}
	w.at += size
	return w.bits[w.at-size : w.at]
}

func (w *wordsReader) number(size int) int {
	n := 0
	for i, digit := range w.take(size) {
		if digit == '1' {
			n += 1 << i
		}
	}
	return n
}

func (w *wordsReader) say(b byte) {
	if len(w.said) == w.most {
		panic(api.ErrLong)
	}
	w.said = append(w.said, b)
}

// symbol reads a code of such ones.
func (w *wordsReader) symbol(known map[string]int) int {
	code := ""
	for range 15 {
		code += w.take(1)
		if i, ok := known[code]; ok {
			return i
		}
	}
	panic(api.ErrForm)
}

// symbolsOf answers which symbol each code of such lengths means.
func symbolsOf(lengths []int) map[string]int {
	if !areCode(lengths) {
		panic(api.ErrForm)
	}
	known := map[string]int{}
	for i, code := range byhand.Codes(lengths) {
		if code != "" {
			known[code] = i
		}
	}
	return known
}

func (w *wordsReader) stored() {
	for w.at%8 != 0 {
		w.take(1)
	}
	n := w.number(16)
	if w.number(16) != 65535-n {
		panic(api.ErrForm)
	}
	for range n {
		w.say(byte(w.number(8)))
	}
}

func (w *wordsReader) told() {
	symbols, distances, count := 257+w.number(5), 1+w.number(5), 4+w.number(4)
	if symbols > 286 || distances > 30 {
		panic(api.ErrForm)
	}
	ofLengths := make([]int, 19)
	for _, i := range order[:count] {
		ofLengths[i] = w.number(3)
	}
	known := symbolsOf(ofLengths)
	var lengths []int
	for len(lengths) < symbols+distances {
		switch symbol := w.symbol(known); symbol {
		case 16:
			if len(lengths) == 0 {
				panic(api.ErrForm)
			}
			lengths = append(lengths, repeated(lengths[len(lengths)-1], 3+w.number(2))...)
		case 17:
			lengths = append(lengths, repeated(0, 3+w.number(3))...)
		case 18:
			lengths = append(lengths, repeated(0, 11+w.number(7))...)
		default:
			lengths = append(lengths, symbol)
		}
	}
	if len(lengths) > symbols+distances || lengths[256] == 0 {
		panic(api.ErrForm)
	}
	w.symbols(symbolsOf(lengths[:symbols]), symbolsOf(lengths[symbols:]))
}

// symbols reads up to a block's end.
func (w *wordsReader) symbols(known, knownBack map[string]int) {
	for {
		symbol := w.symbol(known)
		switch {
		case symbol == 256:
			return
		case symbol < 256:
			w.say(byte(symbol))
			continue
		}
		size := w.more(wordsLengths, symbol-257)
		far := w.more(wordsDistances, w.symbol(knownBack))
		if far > len(w.said) {
			panic(api.ErrForm)
		}
		for range size {
			w.say(w.said[len(w.said)-far])
		}
	}
}

// more reads what symbol n of a table says.
func (w *wordsReader) more(table [][2]int, n int) int {
	if n >= len(table) {
		panic(api.ErrForm)
	}
	return table[n][0] + w.number(table[n][1])
}
