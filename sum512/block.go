package sum512

import "math/bits"

// mix adds the block, which is full, to the state.
func (h *Hash) mix() {
	a, b, c, d := h.state[0], h.state[1], h.state[2], h.state[3]
	e, f, g, last := h.state[4], h.state[5], h.state[6], h.state[7]
	for i, word := range h.words() {
		t := last + turns(e, 14, 18, 41) + (e&f ^ ^e&g) + h.keys[i] + word
		u := turns(a, 28, 34, 39) + (a&b ^ a&c ^ b&c)
		last, g, f, e, d, c, b, a = g, f, e, d+t, c, b, a, t+u
	}
	for i, x := range [8]uint64{a, b, c, d, e, f, g, last} {
		h.state[i] += x
	}
}

// words answers the words W of the block: its own sixteen, and those that follow from them.
func (h *Hash) words() (w [80]uint64) {
	for i, b := range h.block {
		w[i/8] = w[i/8]<<8 | uint64(b)
	}
	for i := 16; i < len(w); i++ {
		x, y := w[i-15], w[i-2]
		s0 := turned(x, 1) ^ turned(x, 8) ^ x>>7
		s1 := turned(y, 19) ^ turned(y, 61) ^ y>>6
		w[i] = s1 + w[i-7] + s0 + w[i-16]
	}
	return w
}

// turns is x turned right by each of three numbers, xor.
func turns(x uint64, i, j, k int) uint64 {
	return turned(x, i) ^ turned(x, j) ^ turned(x, k)
}

// turned is x turned right by n.
func turned(x uint64, n int) uint64 { return bits.RotateLeft64(x, -n) }
