package field

import "engrosser/api"

// Pow answers a to the power of the number of e's words, the least first.
func Pow(a api.Fe, e [4]uint64) api.Fe {
	power := Small(1)
halving:
	for {
		switch {
		case e == [4]uint64{}:
			break halving
		case e[0]&1 == 1:
			power = Mul(power, a)
		}
		a, e = Mul(a, a), half(e)
	}
	return power
}

// half answers half of e, less what is behind the point.
func half(e [4]uint64) [4]uint64 {
	return [4]uint64{e[0]>>1 | e[1]<<63, e[1]>>1 | e[2]<<63, e[2]>>1 | e[3]<<63, e[3] >> 1}
}

// Invert answers the number whose product with a is 1, or 0 of 0: a to the power p - 2, for to the power p - 1 each number but 0 is 1.
func Invert(a api.Fe) api.Fe {
	return Pow(a, [4]uint64{1<<64 - 21, 1<<64 - 1, 1<<64 - 1, 1<<63 - 1})
}

// Root answers the even x for which v x x is u, if there is one.
func Root(u, v api.Fe) (api.Fe, bool) {
	u = reduced(u)
	x := nearRoot(u, v)
	if timesSquare(v, x) != u {
		x = Mul(x, rootOfMinusOne())
	}
	if timesSquare(v, x) != u {
		return api.Fe{}, false
	}
	if Odd(x) {
		x = Neg(x)
	}
	return x, true
}

// nearRoot answers an x for which v x x is u or -u, if there is a root of either: u v^3, times u v^7 to the power (p - 5) / 8.
// Then v x x is u times a fourth root of 1, for it is u times u v^7 to the power (p - 1) / 4; and u divided by v has a root just if that is 1 or -1.
func nearRoot(u, v api.Fe) api.Fe {
	square := Mul(v, v)
	cube := Mul(square, v)
	seventh := Mul(Mul(square, square), cube)
	power := Pow(Mul(u, seventh), [4]uint64{1<<64 - 3, 1<<64 - 1, 1<<64 - 1, 1<<60 - 1})
	return Mul(Mul(u, cube), power)
}

// timesSquare answers v x x.
func timesSquare(v, x api.Fe) api.Fe { return Mul(v, Mul(x, x)) }

// rootOfMinusOne answers 2 to the power (p - 1) / 4, whose square is -1, for 2 has no root.
func rootOfMinusOne() api.Fe {
	return api.Fe{0xc4ee1b274a0ea0b0, 0x2f431806ad2fe478, 0x2b4d00993dfbd7a7, 0x2b8324804fc1df0b}
}
