package sum512

import (
	"math/big"
	"testing"
)

// P2.1: the first 80 primes, and no others.
func TestPrimes(t *testing.T) {
	n := int64(1)
	for i, p := range primes() {
		for n++; !big.NewInt(n).ProbablyPrime(0); n++ {
		}
		if p != uint64(n) {
			t.Errorf("prime %d: got %d, want %d", i, p, n)
		}
	}
}

// P2.1: H at first, as FIPS 180-4 prints it.
func TestFirst(t *testing.T) {
	first, _ := constants()
	wanted := [8]uint64{
		0x6a09e667f3bcc908, 0xbb67ae8584caa73b, 0x3c6ef372fe94f82b, 0xa54ff53a5f1d36f1,
		0x510e527fade682d1, 0x9b05688c2b3e6c1f, 0x1f83d9abfb41bd6b, 0x5be0cd19137e2179,
	}
	if first != wanted {
		t.Errorf("got %x", first)
	}
}

// P2.1: K: the first and the last four as FIPS 180-4 prints them.
func TestKeys(t *testing.T) {
	_, keys := constants()
	if [4]uint64(keys[:4]) != [4]uint64{0x428a2f98d728ae22, 0x7137449123ef65cd, 0xb5c0fbcfec4d3b2f, 0xe9b5dba58189dbbc} {
		t.Errorf("at first %x", keys[:4])
	}
	if [4]uint64(keys[76:]) != [4]uint64{0x4cc5d4becb3e42b6, 0x597f299cfc657e2a, 0x5fcb6fab3ad6faec, 0x6c44198c4a475817} {
		t.Errorf("at last %x", keys[76:])
	}
}

// P2.1: all of H and K, and the roots that neither takes, as great numbers tell them: the greatest numbers that are not above the roots.
func TestRoots(t *testing.T) {
	first, keys := constants()
	for i, p := range primes() {
		for degree := 2; degree <= 3; degree++ {
			whole, part := wholeRoot(p, degree), rootPart(p, degree)
			root := new(big.Int).Lsh(new(big.Int).SetUint64(whole), 64)
			root.Add(root, new(big.Int).SetUint64(part))
			wanted := new(big.Int).Lsh(new(big.Int).SetUint64(p), uint(64*degree))
			exponent := big.NewInt(int64(degree))
			next := new(big.Int).Add(root, big.NewInt(1))
			if new(big.Int).Exp(root, exponent, nil).Cmp(wanted) > 0 || new(big.Int).Exp(next, exponent, nil).Cmp(wanted) <= 0 {
				t.Errorf("of %d, degree %d: %x", p, degree, root)
			}
			if degree == 2 && i < len(first) && first[i] != part || degree == 3 && keys[i] != part {
				t.Errorf("of %d, degree %d: %x does not stand in its place", p, degree, part)
			}
		}
	}
}
