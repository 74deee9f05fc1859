package deflate

import (
	"slices"

	"engrosser/blocks"
	"engrosser/huff"
)

// How many bits stand at a block's beginning: is it the last one, and its kind.
const (
	lastBits = 1
	kindBits = 2
)

// packer writes blocks.
type packer struct {
	bitWriter
	fixed code
}

// pack writes a piece, which its tokens say, as a block; last is 1 if no other one comes behind, else 0.
func (p *packer) pack(piece string, tokens []Token, last int) {
	words := textWords(piece, tokens)
	kind, block := blocks.Fixed, p.fixed.numbers(words)
	if told := toldBlock(words); size(told) < size(block) {
		kind, block = blocks.Told, told
	}
	if stored := storedBlock(piece, p.left(lastBits+kindBits)); size(stored) < size(block) {
		kind, block = blocks.Stored, stored
	}
	p.write(number{last, lastBits}, number{kind, kindBits})
	p.write(block...)
}

// storedBlock answers what stands in a block of kind 0: so many bits that are passed over, and the piece as it is.
func storedBlock(piece string, passed int) []number {
	numbers := make([]number, 0, 3+len(piece))
	numbers = append(numbers, number{0, passed}, number{len(piece), 16}, number{65535 - len(piece), 16})
	for _, b := range []byte(piece) {
		numbers = append(numbers, number{int(b), 8})
	}
	return numbers
}

// toldBlock answers what stands in a block of kind 2: its codes, and the words in these.
func toldBlock(words []word) []number {
	counts := countsOf(words, blocks.Symbols+blocks.Distances)
	symbols, _ := huff.Lengths(counts[:blocks.Symbols], mostTextBits)
	distances, _ := huff.Lengths(counts[blocks.Symbols:], mostTextBits)
	told := toldLengths(upToLast(symbols, blocks.FewestSymbols), upToLast(distances, blocks.FewestDistances))
	return append(told, textCode(symbols, distances).numbers(words)...)
}

// toldLengths answers how a block of kind 2 tells its codes.
func toldLengths(symbols, distances []int) []number {
	words := runs(slices.Concat(symbols, distances))
	order := blocks.Order()
	lengths, _ := huff.Lengths(countsOf(words, len(order)), mostToldBits)
	var ordered []int
	for _, symbol := range order {
		ordered = append(ordered, lengths[symbol])
	}
	ordered = upToLast(ordered, blocks.FewestTold)
	told := []number{{len(symbols) - blocks.FewestSymbols, 5}, {len(distances) - blocks.FewestDistances, 5}, {len(ordered) - blocks.FewestTold, 4}}
	for _, n := range ordered {
		told = append(told, number{n, 3})
	}
	return append(told, newCode(lengths).numbers(words)...)
}

// countsOf answers how often each of so many symbols is there.
func countsOf(words []word, symbols int) []int {
	counts := make([]int, symbols)
	for _, w := range words {
		counts[w.symbol]++
	}
	return counts
}

// upToLast answers lengths up to the last one that is not 0, but no fewer than so many.
func upToLast(lengths []int, fewest int) []int {
	for len(lengths) > fewest && lengths[len(lengths)-1] == 0 {
		lengths = lengths[:len(lengths)-1]
	}
	return lengths
}
