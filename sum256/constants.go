package sum256

import "math/bits"

// rootBits is how many bits a root has, with those behind the point: each root that is asked for is below 8.
const rootBits = 3 + 32

// constants answers H at first, and K.
func constants() (first [8]uint32, keys [64]uint32) {
	l := primes()
	for i, root := range squareRoots([8]uint64(l[:8])) {
		first[i] = uint32(root)
	}
	for i, root := range cubicRoots(l) {
		keys[i] = uint32(root)
	}
	return first, keys
}

// primes answers the first 64 primes.
func primes() [64]uint64 {
	found := [64]uint64{2}
	count := 1
search:
	for n := uint64(3); ; n += 2 {
		for _, p := range found[:count] {
			switch {
			case n%p == 0:
				continue search
			case p*p > n: // a greater divisor has a smaller one beside it
				found[count] = n
				count++
				if count == len(found) {
					break search
				}
				continue search
			}
		}
	}
	return found
}

// squareRoots answers the square roots of l, times 2^32, less what is behind the point then.
// The roots grow side by side, a bit at a time: a root's bits wait for each other, not for those of another root.
func squareRoots(l [8]uint64) [8]uint64 {
	var roots [8]uint64
	for i := range rootBits {
		bit := uint64(1) << (rootBits - 1 - i)
		for j, p := range l {
			root := roots[j]
			if high, _ := bits.Mul64(root|bit, root|bit); high < p {
				root |= bit
			}
			roots[j] = root
		}
	}
	return roots
}

// cubicRoots answers the cubic roots of l, as squareRoots does.
func cubicRoots(l [64]uint64) [64]uint64 {
	var roots [64]uint64
	for i := range rootBits {
		bit := uint64(1) << (rootBits - 1 - i)
		for j, p := range l {
			root := roots[j]
			if cube(root|bit) < p<<32 {
				root |= bit
			}
			roots[j] = root
		}
	}
	return roots
}

// cube answers x times x times x, less its last 64 bits; x has rootBits at the most.
func cube(x uint64) uint64 {
	high, low := bits.Mul64(x, x)
	carry, _ := bits.Mul64(low, x)
	return high*x + carry
}
