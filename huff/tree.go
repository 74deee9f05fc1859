package huff

import (
	"cmp"
	"slices"
)

// node is a symbol, or what two nodes became.
type node struct{ weight, number int }

// forest is the nodes that are yet to become one. Both lists have the first one to be taken first. What is joined later is no lighter than what was joined sooner, and has a greater number, so that its place is at the end.
type forest struct{ symbols, joined []node }

// treeLengths answers how far each symbol is below the node that all become in the end.
func treeLengths(counts []int) []int {
	f := forest{symbols: symbolsOf(counts)}
	if len(f.symbols) == 1 {
		lengths := make([]int, len(counts))
		lengths[f.symbols[0].number] = 1
		return lengths
	}
	above := f.join(len(counts))
	lengths := make([]int, len(above))
	// The last number comes first: what is above a node has a greater number.
	for number, up := range slices.Backward(above) {
		if up > 0 {
			lengths[number] = lengths[up] + 1
		}
	}
	return slices.Clip(lengths[:len(counts)])
}

// symbolsOf answers the symbols that have a count, in the order in which they are to be taken.
func symbolsOf(counts []int) []node {
	var symbols []node
	for number, n := range counts {
		if n > 0 {
			symbols = append(symbols, node{n, number})
		}
	}
	slices.SortFunc(symbols, func(a, b node) int {
		return cmp.Or(cmp.Compare(a.weight, b.weight), cmp.Compare(a.number, b.number))
	})
	return symbols
}

// join makes one node of all. It answers of each number that of the node above; 0, if there is none: no node above has the number 0. The numbers of symbols are below count.
func (f *forest) join(count int) []int {
	above := make([]int, count)
	for len(f.symbols)+len(f.joined) > 1 {
		one, other, number := f.take(), f.take(), len(above)
		above[one.number], above[other.number] = number, number
		above = append(above, 0)
		f.joined = append(f.joined, node{one.weight + other.weight, number})
	}
	return above
}

// take takes the first node. Of one weight a symbol comes first, for its number is less than any other's.
func (f *forest) take() node {
	from := &f.symbols
	if len(f.symbols) == 0 || len(f.joined) > 0 && f.joined[0].weight < f.symbols[0].weight {
		from = &f.joined
	}
	first := (*from)[0]
	*from = (*from)[1:]
	return first
}

// halve makes counts more alike, so that codes' lengths are so, too. It rounds up, for a symbol that has a count keeps a code.
func halve(counts []int) {
	for i, n := range counts {
		counts[i] = n/2 + n%2
	}
}
