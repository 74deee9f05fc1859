package byhand

import (
	"slices"
	"strings"

	"engrosser/huff"
)

// Token says so many bytes from so far back; a byte that is said as it is has a Back of 0.
type Token struct{ Size, Back int }

// finder knows where each three bytes of a text stand, ahead of one place.
type finder struct {
	s      string
	places map[string][]int
	ahead  int
}

// newFinder makes a finder that knows no place yet.
func newFinder(s string) *finder { return &finder{s: s, places: map[string][]int{}} }

// near answers where the same three bytes stand as at that place, the nearest one first.
func (f *finder) near(at int) []int {
	for ; f.ahead < at; f.ahead++ {
		three := f.s[f.ahead : f.ahead+3]
		f.places[three] = append(f.places[three], f.ahead)
	}
	all := f.places[f.s[at:at+3]]
	near := slices.Clone(all[max(0, len(all)-16):])
	slices.Reverse(near)
	return near
}

// tokens answers Tokens of P11.1. No range may begin ahead of the one that was asked for last.
func (f *finder) tokens(from, to int) []Token {
	var tokens []Token
	for at := from; at < to; {
		best := Token{1, 0}
		if at+3 <= to {
			for _, place := range f.near(at) {
				n := 3
				for n < 258 && at+n < to && f.s[place+n] == f.s[at+n] {
					n++
				}
				if n > best.Size && at-place <= 32768 {
					best = Token{n, at - place}
				}
			}
		}
		tokens = append(tokens, best)
		at += best.Size
	}
	return tokens
}

// Tokens answers Tokens of P11.1, of a range that may be.
func Tokens(s string, from, to int) []Token { return newFinder(s).tokens(from, to) }

// withTokens answers the bits of tokens, which stand for s from byte at on, and the end.
func (p Packer) withTokens(s string, at int, tokens []Token) string {
	var b strings.Builder
	for _, t := range tokens {
		if t.Back == 0 {
			b.WriteString(p.Bytes(s[at : at+1]))
		} else {
			b.WriteString(p.Again(t.Size, t.Back))
		}
		at += t.Size
	}
	return b.String() + p.End()
}

// Counts answers how often each symbol is there, and each distance, in a block of tokens that stand for s from byte at on.
func Counts(s string, at int, tokens []Token) (symbols, distances []int) {
	symbols, distances = make([]int, 286), make([]int, 30)
	symbols[256] = 1
	for _, t := range tokens {
		if t.Back == 0 {
			symbols[s[at]]++
		} else {
			symbol, _, _ := inTable(Lengths(), t.Size)
			distance, _, _ := inTable(Distances(), t.Back)
			symbols[257+symbol]++
			distances[distance]++
		}
		at += t.Size
	}
	return symbols, distances
}

// trimmed answers lengths up to the last one that is not 0, and at least so many.
func trimmed(lengths []int, least int) []int {
	for len(lengths) > least && lengths[len(lengths)-1] == 0 {
		lengths = lengths[:len(lengths)-1]
	}
	return lengths
}

// ToldLengths answers the lengths of the codes that a block of kind 2 tells for such tokens.
func ToldLengths(s string, at int, tokens []Token) (symbols, distances []int) {
	symbols, distances = Counts(s, at, tokens)
	symbols, _ = huff.Lengths(symbols, 15)
	distances, _ = huff.Lengths(distances, 15)
	return trimmed(symbols, 257), trimmed(distances, 1)
}

// told answers what stands in a block of kind 2.
func told(s string, at int, tokens []Token) string {
	lengths, back := ToldLengths(s, at, tokens)
	return HeadOf(lengths, back) + New(lengths, back).withTokens(s, at, tokens)
}

// kinds answers what stands from one byte on up to another one as a block of each kind, behind bits that stand ahead of it.
func (f *finder) kinds(ahead string, from, to int) [3]string {
	last := "0"
	if to == len(f.s) {
		last = "1"
	}
	tokens := f.tokens(from, to)
	return [3]string{
		Stored(ahead, last+"00", "0", f.s[from:to]),
		ahead + last + "10" + Fixed().withTokens(f.s, from, tokens),
		ahead + last + "01" + told(f.s, from, tokens),
	}
}

// Kinds answers the bits of s as one block of each kind.
func Kinds(s string) [3]string { return newFinder(s).kinds("", 0, len(s)) }

// shortest answers which kind P11.3 takes.
func shortest(kinds [3]string) int {
	taken := 2
	if len(kinds[1]) <= len(kinds[2]) {
		taken = 1
	}
	if len(kinds[0]) < len(kinds[taken]) {
		taken = 0
	}
	return taken
}

// KindAny lets Pack take the shortest kind.
const KindAny = -1

// Pack answers Pack of P11.3, in pieces of so many bytes; or all blocks are of one kind. It tells too how many were of each.
func Pack(s string, piece, kind int) (string, [3]int) {
	bits, used := "", [3]int{}
	f := newFinder(s)
	for from := 0; ; from += piece {
		to := min(from+piece, len(s))
		kinds := f.kinds(bits, from, to)
		taken := kind
		if kind == KindAny {
			taken = shortest(kinds)
		}
		bits = kinds[taken]
		used[taken]++
		if to == len(s) {
			return Text(bits), used
		}
	}
}
