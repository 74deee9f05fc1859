// Package sum256 is layer 1: SHA-256, piece by piece. See shared/doc/01-sum256.md.
package sum256

const blockSize = 64

// Hash is the sum of a text, as far as it was written. Each whole block is mixed into the state at once, so that no more than one block of the text is kept.
type Hash struct {
	first [8]uint32
	keys  [64]uint32
	state [8]uint32
	block [blockSize]byte
	size  int
}

// New makes one that was written nothing.
func New() *Hash {
	h := &Hash{}
	h.first, h.keys = constants()
	h.state = h.first
	return h
}

// Write puts s behind what was written.
func (h *Hash) Write(s string) {
	for i := range len(s) {
		h.put(s[i])
	}
}

// Sum answers One of all that was written. The end is put behind a copy, so that the text may go on.
func (h *Hash) Sum() string {
	c := *h
	c.putEnd()
	sum := make([]byte, 0, 4*len(c.state))
	for _, word := range c.state {
		sum = append(sum, byte(word>>24), byte(word>>16), byte(word>>8), byte(word))
	}
	return string(sum)
}

// Len answers how many bytes were written.
func (h *Hash) Len() int { return h.size }

// Reset makes it one that was written nothing. The constants stay: they cost more than a block.
func (h *Hash) Reset() {
	*h = Hash{first: h.first, keys: h.keys, state: h.first}
}

// One answers the 32 bytes of SHA-256 of s. Who asks for many does better with one Hash and Reset, for New reckons the constants.
func One(s string) string {
	h := New()
	h.Write(s)
	return h.Sum()
}

func (h *Hash) put(b byte) {
	at := h.size % blockSize
	h.block[at] = b
	h.size++
	if at == blockSize-1 {
		h.mix()
	}
}

// putEnd puts what stands behind every text: a bit, nothing up to the last eight bytes of a block, and there how many bits the text has.
func (h *Hash) putEnd() {
	length := uint64(h.size) * 8
	h.put(0x80)
	for h.size%blockSize != blockSize-8 {
		h.put(0)
	}
	for i := range 8 {
		h.put(byte(length >> (56 - 8*i)))
	}
}
