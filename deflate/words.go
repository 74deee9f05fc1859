package deflate

import (
	"sort"

	"engrosser/blocks"
	"engrosser/inflate"
)

// word is a symbol, and the number behind it. Words of a block's text have symbols and distances in one list: a distance comes behind all symbols.
type word struct {
	symbol int
	behind number
}

// textWords answers the words that say tokens of s, and the end.
func textWords(s string, tokens []Token) []word {
	words := make([]word, 0, 2*len(tokens)+1)
	at := 0
	for _, t := range tokens {
		if t.Size == 1 {
			words = append(words, word{symbol: int(s[at])})
		} else {
			words = append(words, lengthWord(t.Size), distanceWord(t.Back))
		}
		at += t.Size
	}
	return append(words, word{symbol: blocks.End})
}

// lengthWord answers the word that says so many bytes.
func lengthWord(size int) word {
	i, behind := saying(size, blocks.LastLength-blocks.FirstLength+1, func(i int) (base, extra int, ok bool) {
		return inflate.Length(blocks.FirstLength + i)
	})
	return word{blocks.FirstLength + i, behind}
}

// distanceWord answers the word that says so far back.
func distanceWord(back int) word {
	i, behind := saying(back, blocks.Distances, inflate.Distance)
	return word{blocks.Symbols + i, behind}
}

// saying answers which one of so many symbols says n, and the number behind it: the last one whose least number is not above n.
func saying(n, count int, says func(int) (base, extra int, ok bool)) (int, number) {
	above := sort.Search(count, func(i int) bool {
		base, _, _ := says(i)
		return base > n
	})
	base, extra, _ := says(above - 1)
	return above - 1, number{n - base, extra}
}
