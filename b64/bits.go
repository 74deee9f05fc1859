package b64

import "iter"

// written answers the bits of s as digits that say width bits each. What the last one has too many of is 0.
func written(s, digits string, width int) string {
	out := make([]byte, 0, len(s)*8/width+1)
	for value := range regrouped(bytesOf(s), 8, width) {
		out = append(out, digits[value])
	}
	return string(out)
}

// read answers the text that the digits of s say, width bits each; false, if one is none of digits, or if a bit behind the last whole byte is not 0: such a text is not written.
func read(s, digits string, width int) (string, bool) {
	known := placesOf(digits)
	if !known.haveAll(s) {
		return "", false
	}
	whole := len(s) * width / 8
	out := make([]byte, 0, whole+1)
	for value := range regrouped(known.values(s), width, 8) {
		out = append(out, byte(value))
	}
	for _, rest := range out[whole:] {
		if rest != 0 {
			return "", false
		}
	}
	return string(out[:whole]), true
}

// regrouped hands on the bits of groups, which are from bits each, as groups of to bits, the highest bits first. The last one is filled up with bits that are 0.
func regrouped(groups iter.Seq[uint], from, to int) iter.Seq[uint] {
	return func(yield func(uint) bool) {
		kept, count := uint(0), 0
		for group := range groups {
			kept, count = kept<<from|group, count+from
			for count >= to {
				count -= to
				if !yield(kept >> count) {
					return
				}
				kept &= 1<<count - 1
			}
		}
		if count > 0 {
			yield(kept << (to - count))
		}
	}
}

// bytesOf hands on the bytes of s.
func bytesOf(s string) iter.Seq[uint] {
	return func(yield func(uint) bool) {
		for i := range len(s) {
			if !yield(uint(s[i])) {
				return
			}
		}
	}
}

// places tells of each rune below 128 the place that it has among some digits, counted from 1; 0, if it is none. To look there is faster than to go through the digits for each rune.
type places [128]uint8

func placesOf(digits string) *places {
	p := &places{}
	for i, r := range digits {
		p[r] = uint8(i + 1)
	}
	return p
}

// haveAll tells whether s has nothing but digits.
func (p *places) haveAll(s string) bool {
	for _, r := range s {
		if int(r) >= len(p) || p[r] == 0 {
			return false
		}
	}
	return true
}

// values hands on what the runes of s say, which are all digits.
func (p *places) values(s string) iter.Seq[uint] {
	return func(yield func(uint) bool) {
		for _, r := range s {
			if !yield(uint(p[r] - 1)) {
				return
			}
		}
	}
}
