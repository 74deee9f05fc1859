package inflate

import (
	"slices"

	"engrosser/api"
	"engrosser/huff"
)

// The symbols of which lengths are told that are no lengths: the last one again, and 0 some times, or many.
const (
	again     = 16
	someZeros = 17
	manyZeros = 18
)

// toldOrder is the order in which the code for lengths is told: what is seldom there comes last, for the end need not be told.
var toldOrder = [19]int{again, someZeros, manyZeros, 0, 8, 7, 9, 6, 10, 5, 11, 4, 12, 3, 13, 2, 14, 1, 15}

// codes are what a block is read by.
type codes struct{ symbols, distances *huff.Code }

// newCodes makes the codes of such lengths; false, if they make none.
func newCodes(symbols, distances []int) (codes, bool) {
	symbolsCode, e := huff.New(symbols)
	distancesCode, e2 := huff.New(distances)
	return codes{symbolsCode, distancesCode}, e == api.OK && e2 == api.OK
}

// fixedCodes makes the codes of blocks that tell none.
func fixedCodes() (codes, bool) {
	symbols := slices.Concat(slices.Repeat([]int{8}, 144), slices.Repeat([]int{9}, 112), slices.Repeat([]int{7}, 24), slices.Repeat([]int{8}, 8))
	return newCodes(symbols, slices.Repeat([]int{5}, 32))
}

// toldCodes reads the codes that a block tells; false, if they are none.
func (r *reader) toldCodes() (codes, bool) {
	symbols, ok := r.number(firstLength, 5)
	distances, ok2 := r.number(1, 5)
	if !ok || !ok2 || symbols > symbolsInAll || distances > distancesInAll {
		return codes{}, false
	}
	c, ok := r.codeForLengths()
	if !ok {
		return codes{}, false
	}
	lengths, ok := r.lengths(c, symbols+distances)
	if !ok || lengths[blockEnd] == 0 {
		return codes{}, false
	}
	return newCodes(lengths[:symbols], lengths[symbols:])
}

// codeForLengths reads the code by which a block tells lengths; false, if it is none.
func (r *reader) codeForLengths() (*huff.Code, bool) {
	count, ok := r.number(4, 4)
	if !ok {
		return nil, false
	}
	lengths := make([]int, len(toldOrder))
	for i := range count {
		n, ok := r.number(0, 3)
		if !ok {
			return nil, false
		}
		lengths[toldOrder[i]] = n
	}
	c, e := huff.New(lengths)
	return c, e == api.OK
}

// lengths reads so many lengths; false, if other ones are told, or more.
func (r *reader) lengths(c *huff.Code, count int) ([]int, bool) {
	all := make([]int, 0, count)
	for len(all) < count {
		length, times, ok := r.someLengths(c, all)
		if !ok || times > count-len(all) {
			return nil, false
		}
		for range times {
			all = append(all, length)
		}
	}
	return all, true
}

// someLengths reads what one symbol says behind the lengths that are known: one of them, so many times; false, if that is none.
func (r *reader) someLengths(c *huff.Code, known []int) (length, times int, ok bool) {
	symbol, ok := r.symbol(c)
	if !ok {
		return 0, 0, false
	}
	switch symbol {
	case again:
		if len(known) == 0 {
			return 0, 0, false
		}
		length = known[len(known)-1]
		times, ok = r.number(3, 2)
	case someZeros:
		times, ok = r.number(3, 3)
	case manyZeros:
		times, ok = r.number(11, 7)
	default:
		length, times = symbol, 1
	}
	return length, times, ok
}
