package sum256

import (
	"math/big"
	"testing"
)

// P1.1: the first 64 primes, and no others.
func TestPrimes(t *testing.T) {
	n := int64(1)
	for i, p := range primes() {
		for n++; !big.NewInt(n).ProbablyPrime(0); n++ {
		}
		if p != uint64(n) {
			t.Errorf("prime %d: got %d, want %d", i, p, n)
		}
	}
}

// P1.1: H at first, as FIPS 180-4 prints it.
func TestFirst(t *testing.T) {
	first, _ := constants()
	wanted := [8]uint32{0x6a09e667, 0xbb67ae85, 0x3c6ef372, 0xa54ff53a, 0x510e527f, 0x9b05688c, 0x1f83d9ab, 0x5be0cd19}
	if first != wanted {
		t.Errorf("got %x", first)
	}
}

// P1.1: K: the first and the last four as FIPS 180-4 prints them, and all as great numbers tell them.
func TestKeys(t *testing.T) {
	_, keys := constants()
	if [4]uint32(keys[:4]) != [4]uint32{0x428a2f98, 0x71374491, 0xb5c0fbcf, 0xe9b5dba5} {
		t.Errorf("at first %x", keys[:4])
	}
	if [4]uint32(keys[60:]) != [4]uint32{0x90befffa, 0xa4506ceb, 0xbef9a3f7, 0xc67178f2} {
		t.Errorf("at last %x", keys[60:])
	}
	three := big.NewInt(3)
	for i, root := range cubicRoots(primes()) {
		wanted := new(big.Int).Lsh(new(big.Int).SetUint64(primes()[i]), 96)
		low := new(big.Int).Exp(new(big.Int).SetUint64(root), three, nil)
		high := new(big.Int).Exp(new(big.Int).SetUint64(root+1), three, nil)
		if low.Cmp(wanted) > 0 || high.Cmp(wanted) <= 0 || keys[i] != uint32(root) {
			t.Errorf("K %d: %x, of the root %x", i, keys[i], root)
		}
	}
}
