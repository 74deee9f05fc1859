// Package byhand packs texts in the words of chapters 9 to 11, slowly, for the tests of the other packages. Bits are told as digits, in the order in which they are read.
package byhand

import "strings"

// Bits answers the bits of s, the lowest one of each byte first.
func Bits(s string) string {
	b := make([]byte, 8*len(s))
	for i := range b {
		b[i] = '0' + s[i/8]>>(i%8)&1
	}
	return string(b)
}

// Packed answers the text with such bits. What fills up the last byte are bits as told.
func Packed(bits string, fill byte) string {
	b := make([]byte, (len(bits)+7)/8)
	for i := range 8 * len(b) {
		digit := fill
		if i < len(bits) {
			digit = bits[i]
		}
		b[i/8] |= (digit - '0') << (i % 8)
	}
	return string(b)
}

// Text answers the text with such bits, and zeros behind the last one.
func Text(bits ...string) string { return Packed(strings.Join(bits, ""), '0') }

// Number answers the bits of a number, the lowest one first.
func Number(n, size int) string {
	var b strings.Builder
	for i := range size {
		b.WriteByte('0' + byte(n>>i&1))
	}
	return b.String()
}

// Codes answers each symbol's code, one length behind the other, in the words of chapter 9; nothing of a length 0. Of lengths that make no code some codes begin with others.
func Codes(lengths []int) []string {
	codes := make([]string, len(lengths))
	behind := 0
	for n := 1; n <= 15; n++ {
		behind *= 2
		for i, length := range lengths {
			if length == n {
				code := make([]byte, n)
				for bit := range code {
					code[bit] = '0' + byte(behind>>(n-1-bit)&1)
				}
				codes[i] = string(code)
				behind++
			}
		}
	}
	return codes
}
