package scalar

import "math/bits"

// number is one below 2^256: four words, the least first.
type number [4]uint64

// wide is one below 2^512: what two numbers' product, and a third number, have room in.
type wide [8]uint64

// The least two words of L. Of the others one is 0, and one is 2^60, for L is 2^252 and these two.
const (
	lowest = 0x5812631a5cf5d3ed
	second = 0x14def9dea2f79cd6
)

// order answers L.
func order() number { return number{lowest, second, 0, 1 << 60} }

// read answers the number of the first bytes of s, of as many as there are, but of most, which is 64 or less.
func read(s string, most int) (n wide) {
	for i := range min(len(s), most) {
		n[i/8] |= uint64(s[i]) << (i % 8 * 8)
	}
	return n
}

// written answers the 32 bytes of n, the least first.
func written(n number) string {
	var bytes [size]byte
	for i := range bytes {
		bytes[i] = byte(n[i/8] >> (i % 8 * 8))
	}
	return string(bytes[:])
}

// timesAnd answers a times b, and c, as it is done by hand; each of them is below 2^256.
func timesAnd(a, b, c wide) wide {
	for i := range 4 {
		carry := uint64(0)
		for j := range 4 {
			c[i+j], carry = step(a[i], b[j], c[i+j], carry)
		}
		c[i+4] = carry
	}
	return c
}

// step answers x times y, and there, and carry: a word, and what is carried, which a word has room for.
func step(x, y, there, carry uint64) (word, next uint64) {
	high, low := bits.Mul64(x, y)
	low, more := bits.Add64(low, there, 0)
	word, last := bits.Add64(low, carry, 0)
	return word, high + more + last
}

// reduced answers n modulo L, half a word of it after the other, the greatest first.
func reduced(n wide) (r number) {
	for i := len(n) - 1; i >= 0; i-- {
		r = behind(r, n[i]>>32)
		r = behind(r, n[i]&(1<<32-1))
	}
	return r
}

// behind answers, modulo L, r times 2^32, and half, which is below 2^32; r is below L.
// As L is 2^252 and its least two words, each 2^252 counts as those words taken away. There are less than 2^33 of them, so less than 2^158 is taken away: where that leads below 0, one L leads back.
func behind(r number, half uint64) number {
	times := r[3] >> 28
	rest := number{r[0]<<32 | half, r[1]<<32 | r[0]>>32, r[2]<<32 | r[1]>>32, r[3]<<32&(1<<60-1) | r[2]>>32}
	rest, borrow := minus(rest, leastTimes(times))
	if borrow == 1 {
		rest = plus(rest, order())
	}
	return rest
}

// leastTimes answers the least two words of L, times n.
func leastTimes(n uint64) number {
	w0, carry := step(n, lowest, 0, 0)
	w1, carry := step(n, second, 0, carry)
	return number{w0, w1, carry}
}

// minus answers a - b: four words, and whether that is below 0.
func minus(a, b number) (rest number, borrow uint64) {
	for i := range rest {
		rest[i], borrow = bits.Sub64(a[i], b[i], borrow)
	}
	return rest, borrow
}

// plus answers a + b, without what is carried: that goes against what minus borrowed.
func plus(a, b number) (sum number) {
	carry := uint64(0)
	for i := range sum {
		sum[i], carry = bits.Add64(a[i], b[i], carry)
	}
	return sum
}
