package crc

// modulus says all of the polynomial but x^32, and one says 1.
const (
	modulus = 0xedb88320
	one     = 1 << (width - 1)
)

// overBit answers the product of sum with x.
func overBit(sum uint32) uint32 {
	fell := sum & 1
	return sum>>1 ^ modulus&-fell
}

// overByte answers the product of sum with x^8.
func overByte(sum uint32) uint32 {
	for range 8 {
		sum = overBit(sum)
	}
	return sum
}

// overBytes answers a function that moves a sum on over a byte of a text. It keeps what each byte comes to, as a text has many.
func overBytes() func(uint32, byte) uint32 {
	var sums [256]uint32
	for i := range 256 {
		sums[i] = overByte(uint32(i))
	}
	return func(sum uint32, b byte) uint32 {
		return sum>>8 ^ sums[byte(sum)^b]
	}
}

// product answers a times b.
func product(a, b uint32) uint32 {
	sum := uint32(0)
	for i := range width {
		sum ^= b & -(a >> (width - 1 - i) & 1)
		b = overBit(b)
	}
	return sum
}

// power answers a, n times by itself.
func power(a uint32, n int) uint32 {
	all := uint32(one)
	for ; n > 0; n >>= 1 {
		if n&1 == 1 {
			all = product(all, a)
		}
		a = product(a, a)
	}
	return all
}
