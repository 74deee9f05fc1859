package deflate

// number is one of some bits.
type number struct{ value, bits int }

// size answers how many bits numbers have in all.
func size(numbers []number) int {
	sum := 0
	for _, n := range numbers {
		sum += n.bits
	}
	return sum
}

// bitWriter writes numbers one behind the other, the lowest bit first.
type bitWriter struct {
	bytes []byte
	rest  uint64 // the bits that are no whole byte yet
	held  int    // how many of them there are
}

// write writes numbers, each of which has room beside the rest.
func (w *bitWriter) write(numbers ...number) {
	for _, n := range numbers {
		w.rest |= uint64(n.value) << w.held
		w.held += n.bits
		for ; w.held >= 8; w.held -= 8 {
			w.bytes = append(w.bytes, byte(w.rest))
			w.rest >>= 8
		}
	}
}

// left answers how many bits there are, behind so many more, up to a whole byte.
func (w *bitWriter) left(more int) int { return -(w.held + more) & 7 }

// text answers what was written, with zeros up to a whole byte.
func (w *bitWriter) text() string {
	w.write(number{0, w.left(0)})
	return string(w.bytes)
}
