package deflate

import (
	"math/bits"
	"slices"

	"engrosser/blocks"
	"engrosser/huff"
)

// The most bits that codes may have in a block of kind 2: those of its text, and those by which it tells lengths.
const (
	mostTextBits = 15
	mostToldBits = 7
)

// code is what each symbol is written as.
type code []number

// newCode makes the code of such lengths.
func newCode(lengths []int) code {
	codes, _ := huff.Codes(lengths)
	c := make(code, len(codes))
	for i, bitsOfCode := range codes {
		// A code's highest bit comes first, but a number's lowest one.
		c[i] = number{int(bits.Reverse16(uint16(bitsOfCode)) >> (16 - lengths[i])), lengths[i]}
	}
	return c
}

// textCode makes the code of a text's words, of such lengths: there may be more of them than mean something.
func textCode(symbols, distances []int) code {
	return slices.Concat(newCode(symbols)[:blocks.Symbols], newCode(distances)[:blocks.Distances])
}

// fixedCode makes the code of blocks of kind 1.
func fixedCode() code { return textCode(blocks.FixedLengths()) }

// numbers answers words as they are written.
func (c code) numbers(words []word) []number {
	numbers := make([]number, 0, 2*len(words))
	for _, w := range words {
		numbers = append(numbers, c[w.symbol], w.behind)
	}
	return numbers
}
