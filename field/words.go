package field

import (
	"math/bits"

	"engrosser/api"
)

// lower are the bits of the greatest word that count less than 2^255.
const lower = 1<<63 - 1

// prime answers p.
func prime() api.Fe { return api.Fe{1<<64 - 19, 1<<64 - 1, 1<<64 - 1, lower} }

// reduced answers a modulo p.
func reduced(a api.Fe) api.Fe { return below(a, 0) }

// below answers, modulo p, the number of a and of over, which stands above a's greatest word; over is at most 38.
// As 2^255 counts 19, the first step leaves a number below 2p. That is not below p just if 19 more reach 2^255; and without that bit they are p less than it.
func below(a api.Fe, over uint64) api.Fe {
	over = over<<1 | a[3]>>63
	a[3] &= lower
	a = plusSmall(a, 19*over)
	less := plusSmall(a, 19)
	if less[3] <= lower {
		return a
	}
	less[3] &= lower
	return less
}

// plusSmall answers a + n, which has room in four words.
func plusSmall(a api.Fe, n uint64) api.Fe {
	w0, carry := bits.Add64(a[0], n, 0)
	w1, carry := bits.Add64(a[1], 0, carry)
	w2, carry := bits.Add64(a[2], 0, carry)
	return api.Fe{w0, w1, w2, a[3] + carry}
}

// plus answers a + b: four words, and what is carried.
func plus(a, b api.Fe) (sum api.Fe, carry uint64) {
	for i := range sum {
		sum[i], carry = bits.Add64(a[i], b[i], carry)
	}
	return sum, carry
}

// opposite answers p less a, which is p itself where a is 0.
func opposite(a api.Fe) api.Fe {
	a = reduced(a)
	borrow := uint64(0)
	for i, word := range prime() {
		a[i], borrow = bits.Sub64(word, a[i], borrow)
	}
	return a
}

// row answers x times b, and w0 to w3: four words, and what is carried.
func row(x uint64, b api.Fe, w0, w1, w2, w3 uint64) (r0, r1, r2, r3, carry uint64) {
	r0, carry = step(x, b[0], w0, 0)
	r1, carry = step(x, b[1], w1, carry)
	r2, carry = step(x, b[2], w2, carry)
	r3, carry = step(x, b[3], w3, carry)
	return r0, r1, r2, r3, carry
}

// step answers x times y, and there, and carry: a word, and what is carried, which a word has room for.
func step(x, y, there, carry uint64) (word, next uint64) {
	high, low := bits.Mul64(x, y)
	low, more := bits.Add64(low, there, 0)
	word, last := bits.Add64(low, carry, 0)
	return word, high + more + last
}
