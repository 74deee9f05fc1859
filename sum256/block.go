package sum256

import "math/bits"

// mix adds the block, which is full, to the state.
func (h *Hash) mix() {
	w := h.words()
	a, b, c, d := h.state[0], h.state[1], h.state[2], h.state[3]
	e, f, g, last := h.state[4], h.state[5], h.state[6], h.state[7]
	for i := range len(w) {
		t := last + turns(e, 6, 11, 25) + (e&f ^ ^e&g) + h.keys[i] + w[i]
		u := turns(a, 2, 13, 22) + (a&b ^ a&c ^ b&c)
		last, g, f, e, d, c, b, a = g, f, e, d+t, c, b, a, t+u
	}
	for i, x := range [8]uint32{a, b, c, d, e, f, g, last} {
		h.state[i] += x
	}
}

// words answers the words W of the block: its own sixteen, and those that follow from them.
func (h *Hash) words() [64]uint32 {
	var w [64]uint32
	for i := range 16 {
		p := h.block[4*i : 4*i+4]
		w[i] = uint32(p[0])<<24 | uint32(p[1])<<16 | uint32(p[2])<<8 | uint32(p[3])
	}
	for i := 16; i < len(w); i++ {
		x, y := w[i-15], w[i-2]
		s0 := turned(x, 7) ^ turned(x, 18) ^ x>>3
		s1 := turned(y, 17) ^ turned(y, 19) ^ y>>10
		w[i] = s1 + w[i-7] + s0 + w[i-16]
	}
	return w
}

// turns is x turned right by each of three numbers, xor.
func turns(x uint32, i, j, k int) uint32 {
	return turned(x, i) ^ turned(x, j) ^ turned(x, k)
}

// turned is x turned right by n.
func turned(x uint32, n int) uint32 { return bits.RotateLeft32(x, -n) }
