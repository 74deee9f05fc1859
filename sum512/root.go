package sum512

import "math/bits"

// fixed is a number: what is ahead of the point, and two words of what is behind it.
type fixed struct{ ahead, behind, last uint64 }

// rootPart answers the first 64 bits behind the point of a root of p, which is a prime below 512: the square root where degree is 2, the cubic one where it is 3.
// It begins above the root and falls by Newton's steps, which never lead below the root; where one comes to nothing, the last bit falls. So the first number that is not above the root is the greatest such one.
func rootPart(p uint64, degree int) uint64 {
	x := fixed{ahead: wholeRoot(p, degree), behind: ^uint64(0)}
falling:
	for {
		switch length, above := fall(p, x, degree); {
		case !above:
			break falling
		case length == 0:
			x.behind--
		default:
			x.behind -= length
		}
	}
	return x.behind
}

// wholeRoot answers what is ahead of the point of the root.
func wholeRoot(p uint64, degree int) uint64 {
	for next := uint64(2); ; next++ {
		power := next
		for range degree - 1 {
			power *= next
		}
		if power > p {
			return next - 1
		}
	}
}

// fall answers how far, in last bits, Newton's step leads down from x to the root, if x is above it. (It is never the root itself: a prime's root does not end.)
// All rounding makes the step shorter, and it is shorter than 1, for x and the root are the same ahead of the point.
func fall(p uint64, x fixed, degree int) (length uint64, above bool) {
	lower := x
	for range degree - 2 {
		lower = lower.times(x)
	}
	power := lower.times(x)
	if power.ahead < p {
		return 0, false
	}
	// The slope is below 192: a word has room for 56 of its bits behind the point.
	slope := uint64(degree) * ((lower.ahead<<56 | lower.behind>>8) + 1)
	excess := power.ahead - p
	length, _ = bits.Div64(excess<<56|power.behind>>8, power.behind<<56, slope)
	return length, true
}

// times answers n times x, less what is behind the last word then; x has nothing in its last word.
func (n fixed) times(x fixed) fixed {
	whole, part := x.ahead, x.behind
	high1, low1 := bits.Mul64(n.ahead, part)
	high2, low2 := bits.Mul64(n.behind, whole)
	high3, low3 := bits.Mul64(n.behind, part)
	high4, low4 := bits.Mul64(n.last, whole)
	high5, _ := bits.Mul64(n.last, part)
	last, carry := addAll(low3, low4, high5)
	behind, more := addAll(low1, low2, high3, high4, carry)
	return fixed{n.ahead*whole + high1 + high2 + more, behind, last}
}

// addAll answers the sum of l, and how often it went round.
func addAll(l ...uint64) (total, rounds uint64) {
	for _, word := range l {
		next, round := bits.Add64(total, word, 0)
		total, rounds = next, rounds+round
	}
	return total, rounds
}
