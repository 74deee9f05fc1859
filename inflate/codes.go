package inflate

import (
	"engrosser/api"
	"engrosser/blocks"
	"engrosser/huff"
)

// codes are what a block is read by.
type codes struct{ symbols, distances *huff.Code }

// newCodes makes the codes of such lengths; false, if they make none.
func newCodes(symbols, distances []int) (codes, bool) {
	symbolsCode, e := huff.New(symbols)
	distancesCode, e2 := huff.New(distances)
	return codes{symbolsCode, distancesCode}, e == api.OK && e2 == api.OK
}

// fixedCodes makes the codes of blocks that tell none.
func fixedCodes() (codes, bool) {
	return newCodes(blocks.FixedLengths())
}

// toldCodes reads the codes that a block tells; false, if they are none.
func (r *reader) toldCodes() (codes, bool) {
	symbols, ok := r.number(blocks.FewestSymbols, 5)
	distances, ok2 := r.number(blocks.FewestDistances, 5)
	if !ok || !ok2 || symbols > blocks.Symbols || distances > blocks.Distances {
		return codes{}, false
	}
	c, ok := r.codeForLengths()
	if !ok {
		return codes{}, false
	}
	lengths, ok := r.lengths(c, symbols+distances)
	if !ok || lengths[blocks.End] == 0 {
		return codes{}, false
	}
	return newCodes(lengths[:symbols], lengths[symbols:])
}

// codeForLengths reads the code by which a block tells lengths; false, if it is none.
func (r *reader) codeForLengths() (*huff.Code, bool) {
	count, ok := r.number(blocks.FewestTold, 4)
	if !ok {
		return nil, false
	}
	order := blocks.Order()
	lengths := make([]int, len(order))
	for _, symbol := range order[:count] {
		n, ok := r.number(0, 3)
		if !ok {
			return nil, false
		}
		lengths[symbol] = n
	}
	c, e := huff.New(lengths)
	return c, e == api.OK
}

// lengths reads so many lengths; false, if other ones are told, or more.
func (r *reader) lengths(c *huff.Code, count int) ([]int, bool) {
	all := make([]int, 0, count)
	for len(all) < count {
		length, times, ok := r.someLengths(c, all)
		if !ok || times > count-len(all) {
			return nil, false
		}
		for range times {
			all = append(all, length)
		}
	}
	return all, true
}

// someLengths reads what one symbol says behind the lengths that are known: one of them, so many times; false, if that is none.
func (r *reader) someLengths(c *huff.Code, known []int) (length, times int, ok bool) {
	symbol, ok := r.symbol(c)
	if !ok {
		return 0, 0, false
	}
	base, extra, several := blocks.Times(symbol)
	if !several {
		return symbol, 1, true
	}
	if symbol == blocks.Again {
		if len(known) == 0 {
			return 0, 0, false
		}
		length = known[len(known)-1]
	}
	times, ok = r.number(base, extra)
	return length, times, ok
}
