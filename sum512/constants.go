package sum512

// lastPrime is the eightieth prime.
const lastPrime = 409

// constants answers H at first, and K.
func constants() (first [8]uint64, keys [80]uint64) {
	l := primes()
	for i := range first {
		first[i] = rootPart(l[i], 2)
	}
	for i := range keys {
		keys[i] = rootPart(l[i], 3)
	}
	return first, keys
}

// primes answers the first 80 primes.
func primes() (found [80]uint64) {
	var divided [lastPrime + 1]bool
	count := 0
	for n := 2; n <= lastPrime; n++ {
		if divided[n] {
			continue
		}
		found[count] = uint64(n)
		count++
		for m := n * n; m <= lastPrime; m += n {
			divided[m] = true
		}
	}
	return found
}
