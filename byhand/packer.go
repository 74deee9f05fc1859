package byhand

import (
	"slices"
	"strings"
)

// FixedLengths answers the lengths of symbols in a block of kind 1, and those of distances.
func FixedLengths() (symbols, distances []int) {
	for i := range 288 {
		n := 8
		if 144 <= i && i < 256 {
			n = 9
		} else if 256 <= i && i < 280 {
			n = 7
		}
		symbols = append(symbols, n)
	}
	return symbols, slices.Repeat([]int{5}, 32)
}

// Lengths answers the least length of each symbol from 257 on, and how many bits more it has.
func Lengths() [][2]int {
	return append(table(3, [][2]int{{8, 0}, {4, 1}, {4, 2}, {4, 3}, {4, 4}, {4, 5}}), [2]int{258, 0})
}

// Distances answers the same of distances, from 0 on.
func Distances() [][2]int {
	return table(1, [][2]int{{4, 0}, {2, 1}, {2, 2}, {2, 3}, {2, 4}, {2, 5}, {2, 6}, {2, 7}, {2, 8}, {2, 9}, {2, 10}, {2, 11}, {2, 12}, {2, 13}})
}

// table answers the base and the bits more of each symbol of such rows, which tell how many symbols have how many bits more: each base is the one ahead of it, and 2 to the power of that one's bits.
func table(first int, rows [][2]int) [][2]int {
	var table [][2]int
	for _, row := range rows {
		for range row[0] {
			table = append(table, [2]int{first, row[1]})
			first += 1 << row[1]
		}
	}
	return table
}

// inTable answers which one of a table says n, and with which number of how many bits.
func inTable(table [][2]int, n int) (at, value, more int) {
	for at := range table {
		if at == len(table)-1 || table[at+1][0] > n {
			return at, n - table[at][0], table[at][1]
		}
	}
	return
}

// Packer writes what stands in a block by such codes.
type Packer struct{ Symbols, Distances []string }

// New makes a packer of such lengths of codes.
func New(lengths, back []int) Packer { return Packer{Codes(lengths), Codes(back)} }

// Fixed makes the packer of blocks of kind 1.
func Fixed() Packer { return New(FixedLengths()) }

// Bytes answers the bits of the bytes of s.
func (p Packer) Bytes(s string) string {
	var b strings.Builder
	for _, c := range []byte(s) {
		b.WriteString(p.Symbols[c])
	}
	return b.String()
}

// End answers the bits of a block's end.
func (p Packer) End() string { return p.Symbols[256] }

// Again answers the bits that say so many bytes from so far back, 258 by the symbol 285.
func (p Packer) Again(size, back int) string {
	symbol, value, more := inTable(Lengths(), size)
	distance, backValue, backMore := inTable(Distances(), back)
	return p.Symbols[257+symbol] + Number(value, more) + p.Distances[distance] + Number(backValue, backMore)
}

// Stored answers a block of kind 0, behind bits that stand ahead of it; fill is the bit that is passed over.
func Stored(ahead, begin, fill, s string) string {
	ahead += begin
	ahead += strings.Repeat(fill, (8-len(ahead)%8)%8)
	return ahead + Number(len(s), 16) + Number(65535-len(s), 16) + Bits(s)
}
