// Package sample has texts, and certificates, for the tests of the other packages, which are handed no chance: the same ones each time.
package sample

// Text answers a text of n bytes that follow no plain rule; another seed, from 0 on, has another one.
func Text(n, seed int) string {
	b := make([]byte, max(n, 0))
	// One more than the seed, for of 0 there would be nothing but 0.
	x := uint64(n)<<32 + uint64(seed) + 1
	for i := range b {
		x ^= x << 13
		x ^= x >> 7
		x ^= x << 17
		b[i] = byte(x * 0x2545f4914f6cdd1d >> 56)
	}
	return string(b)
}
