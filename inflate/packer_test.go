package inflate

import (
	"slices"
	"strings"

	"engrosser/huff"
)

// The beginnings of blocks: is it the last one, and of which kind.
const (
	storedBlock, lastStored = "000", "100"
	fixedBlock, lastFixed   = "010", "110"
	toldBlock, lastTold     = "001", "101"
	wrongBlock, lastWrong   = "011", "111"
)

// packer writes what stands in a block by such lengths of codes.
type packer struct{ symbols, distances []string }

func packerOf(lengths, back []int) packer { return packer{codesOf(lengths), codesOf(back)} }

// fixed is the packer of blocks of kind 1.
var fixed = packerOf(fixedLengths, fixedBack)

// bytes answers the bits of the bytes of s.
func (p packer) bytes(s string) string {
	var b strings.Builder
	for _, c := range []byte(s) {
		b.WriteString(p.symbols[c])
	}
	return b.String()
}

// end answers the bits of a block's end.
func (p packer) end() string { return p.symbols[256] }

// again answers the bits that say so many bytes from so far back, 258 by the symbol 285.
func (p packer) again(size, back int) string {
	symbol, value, more := inTable(wordsLengths, size)
	distance, backValue, backMore := inTable(wordsDistances, back)
	return p.symbols[257+symbol] + number(value, more) + p.distances[distance] + number(backValue, backMore)
}

// inTable answers which one of a table says n, and with which number of how many bits.
func inTable(table [][2]int, n int) (at, value, more int) {
	for at := range table {
		if at == len(table)-1 || table[at+1][0] > n {
			return at, n - table[at][0], table[at][1]
		}
	}
	return
}

// stored answers a block of kind 0, behind bits that stand ahead of it; fill is the bit that is passed over.
func stored(ahead, begin, fill, s string) string {
	ahead += begin
	ahead += strings.Repeat(fill, (8-len(ahead)%8)%8)
	return ahead + number(len(s), 16) + number(65535-len(s), 16) + bitsOf(s)
}

// run is a symbol by which lengths are told, and the number behind it.
type run struct{ symbol, value int }

// runsOf answers how lengths are told, in the words of P11.2.
func runsOf(lengths []int) []run {
	var runs []run
	for len(lengths) > 0 {
		n, first := 1, lengths[0]
		for n < len(lengths) && lengths[n] == first {
			n++
		}
		switch {
		case first == 0 && n >= 11:
			n = min(n, 138)
			runs = append(runs, run{18, n - 11})
		case first == 0 && n >= 3:
			runs = append(runs, run{17, n - 3})
		default:
			runs = append(runs, run{first, 0})
			left := 0
			if first != 0 {
				left = n - 1
			}
			for n = 1; left >= 3; {
				most := min(left, 6)
				runs = append(runs, run{16, most - 3})
				n, left = n+most, left-most
			}
		}
		lengths = lengths[n:]
	}
	return runs
}

// runBits is how many bits the number behind a symbol has.
var runBits = map[int]int{16: 2, 17: 3, 18: 7}

// head answers what a block of kind 2 tells ahead of its text: so many symbols and distances, by a code of such lengths, of which so many are told.
func head(symbols, distances int, ofLengths []int, count int, runs []run) string {
	var b strings.Builder
	b.WriteString(number(symbols-257, 5) + number(distances-1, 5) + number(count-4, 4))
	for _, i := range order[:count] {
		b.WriteString(number(ofLengths[i], 3))
	}
	codes := codesOf(ofLengths)
	for _, r := range runs {
		b.WriteString(codes[r.symbol] + number(r.value, runBits[r.symbol]))
	}
	return b.String()
}

// headOf answers what tells such lengths as P11.3 says.
func headOf(lengths, back []int) string {
	runs := runsOf(slices.Concat(lengths, back))
	counts := make([]int, 19)
	for _, r := range runs {
		counts[r.symbol]++
	}
	ofLengths, _ := huff.Lengths(counts, 7)
	count := 19
	for count > 4 && ofLengths[order[count-1]] == 0 {
		count--
	}
	return head(len(lengths), len(back), ofLengths, count, runs)
}

// token says so many bytes from so far back; a byte that is said as it is has a back of 0.
type token struct{ size, back int }

// finder knows where each three bytes of a text stand, ahead of one place.
type finder struct {
	s      string
	places map[string][]int
	ahead  int
}

// near answers where the same three bytes stand as at that place, the nearest one first.
func (f *finder) near(at int) []int {
	for ; f.ahead < at; f.ahead++ {
		three := f.s[f.ahead : f.ahead+3]
		f.places[three] = append(f.places[three], f.ahead)
	}
	all := f.places[f.s[at:at+3]]
	near := slices.Clone(all[max(0, len(all)-16):])
	slices.Reverse(near)
	return near
}

// tokens answers Tokens of P11.1.
func (f *finder) tokens(from, to int) []token {
	var tokens []token
	for at := from; at < to; {
		best := token{1, 0}
		if at+3 <= to {
			for _, place := range f.near(at) {
				n := 3
				for n < 258 && at+n < to && f.s[place+n] == f.s[at+n] {
					n++
				}
				if n > best.size && at-place <= 32768 {
					best = token{n, at - place}
				}
			}
		}
		tokens = append(tokens, best)
		at += best.size
	}
	return tokens
}

// withTokens answers the bits of tokens, which stand for s from byte at on, and the end.
func (p packer) withTokens(s string, at int, tokens []token) string {
	var b strings.Builder
	for _, t := range tokens {
		if t.back == 0 {
			b.WriteString(p.bytes(s[at : at+1]))
		} else {
			b.WriteString(p.again(t.size, t.back))
		}
		at += t.size
	}
	return b.String() + p.end()
}

// lengthsFor answers the lengths of the codes that P11.3 makes for tokens, up to the last ones that are there.
func lengthsFor(s string, at int, tokens []token) (lengths, back []int) {
	counts, backCounts := make([]int, 286), make([]int, 30)
	counts[256] = 1
	for _, t := range tokens {
		if t.back == 0 {
			counts[s[at]]++
		} else {
			symbol, _, _ := inTable(wordsLengths, t.size)
			distance, _, _ := inTable(wordsDistances, t.back)
			counts[257+symbol]++
			backCounts[distance]++
		}
		at += t.size
	}
	lengths, _ = huff.Lengths(counts, 15)
	back, _ = huff.Lengths(backCounts, 15)
	return trimmed(lengths, 257), trimmed(back, 1)
}

// trimmed answers lengths up to the last one that is not 0, and at least so many.
func trimmed(lengths []int, least int) []int {
	for len(lengths) > least && lengths[len(lengths)-1] == 0 {
		lengths = lengths[:len(lengths)-1]
	}
	return lengths
}

// kindAny lets wordsPack take the shortest kind.
const kindAny = -1

// wordsPack answers Pack of P11.3, in pieces of so many bytes; or all blocks are of one kind. It tells too how many were of each.
func wordsPack(s string, piece, kind int) (string, [3]int) {
	bits, used := "", [3]int{}
	f := &finder{s: s, places: map[string][]int{}}
	for from := 0; ; from += piece {
		to := min(from+piece, len(s))
		last := "0"
		if to == len(s) {
			last = "1"
		}
		tokens := f.tokens(from, to)
		lengths, back := lengthsFor(s, from, tokens)
		kinds := [3]string{
			stored(bits, last+"00", "0", s[from:to]),
			bits + last + "10" + fixed.withTokens(s, from, tokens),
			bits + last + "01" + headOf(lengths, back) + packerOf(lengths, back).withTokens(s, from, tokens),
		}
		taken := kind
		if kind == kindAny {
			taken = 2
			if len(kinds[1]) <= len(kinds[2]) {
				taken = 1
			}
			if len(kinds[0]) < len(kinds[taken]) {
				taken = 0
			}
		}
		bits = kinds[taken]
		used[taken]++
		if last == "1" {
			return text(bits), used
		}
	}
}
