package inflate

import (
	"engrosser/api"
	"engrosser/huff"
)

// reader reads the bits of a text, the lowest one of each byte first.
type reader struct {
	text string
	at   int // the next bit
}

// number answers least, and a number of so many bits more, the lowest one first; false, if the text ends ahead of them.
func (r *reader) number(least, more int) (int, bool) {
	if more > 8*len(r.text)-r.at {
		return 0, false
	}
	n := 0
	for i := range more {
		n |= int(r.text[r.at/8]>>(r.at%8)&1) << i
		r.at++
	}
	return least + n, true
}

// symbol answers the symbol whose code is next; false, if none is.
func (r *reader) symbol(c *huff.Code) (int, bool) {
	symbol, next, e := c.Next(r.text, r.at)
	if e != api.OK {
		return 0, false
	}
	r.at = next
	return symbol, true
}

// toWholeByte passes over what is left of a byte that is begun.
func (r *reader) toWholeByte() { r.at = 8 * r.bytesRead() }

// bytesRead answers how many bytes were read, the last one perhaps not whole.
func (r *reader) bytesRead() int { return (r.at + 7) / 8 }
