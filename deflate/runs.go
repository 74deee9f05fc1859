package deflate

import "engrosser/blocks"

// runs answers the words by which a block tells lengths.
func runs(lengths []int) []word {
	var words []word
	for at := 0; at < len(lengths); {
		w, times := run(lengths, at)
		words = append(words, w)
		at += times
	}
	return words
}

// run answers the word for what stands in lengths at a place, and how many of them it tells.
func run(lengths []int, at int) (word, int) {
	for _, symbol := range severalAt(lengths, at) {
		base, extra, _ := blocks.Times(symbol)
		if times := alike(lengths[at:], base+1<<extra-1); times >= base {
			return word{symbol, number{times - base, extra}}, times
		}
	}
	return word{symbol: lengths[at]}, 1
}

// severalAt answers the symbols that tell several lengths as the one at a place, first the one that tells more.
func severalAt(lengths []int, at int) []int {
	switch {
	case lengths[at] == 0:
		return []int{blocks.ManyZeros, blocks.SomeZeros}
	case at > 0 && lengths[at-1] == lengths[at]:
		return []int{blocks.Again}
	}
	return nil
}

// alike answers how many lengths are as the first one from it on, at most so many.
func alike(lengths []int, most int) int {
	n := 0
	for n < min(most, len(lengths)) && lengths[n] == lengths[0] {
		n++
	}
	return n
}
