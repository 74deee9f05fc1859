package deflate

import "engrosser/blocks"

const (
	farthest   = 32768 // bytes back
	mostPlaces = 16    // that are looked at for one token
)

// three is three bytes in a row.
type three uint32

// finder knows where each three bytes stand that are ahead of a place.
type finder struct {
	text    string        // up to where tokens are asked for
	newest  map[three]int // the last place of each three bytes
	gaps    []int         // how far ahead of a place the same three bytes stand, or 0 if they do not; a place counts modulo how many gaps there are
	learned int           // places below it are known, as far as they are near enough
}

// newFinder makes a finder of tokens from one byte of s on, up to another one.
func newFinder(s string, from, to int) *finder {
	first := max(0, from-farthest)
	// Where more places come, they take those of others that are too far away by then.
	return &finder{text: s[:to], newest: map[three]int{}, gaps: make([]int, min(to-first, farthest)), learned: first}
}

// token answers what stands at a place. No place may be asked for that is ahead of one that was.
func (f *finder) token(at int) Token {
	best := Token{Size: 1}
	most := min(len(f.text)-at, blocks.GreatestLength)
	if most < blocks.LeastLength {
		return best
	}
	f.learn(at)
	place, there := f.newest[f.threeAt(at)]
search:
	for range mostPlaces {
		if !there || at-place > farthest {
			break
		}
		switch n := f.same(place, at, most); {
		case n == most:
			// None that is farther has more.
			best = Token{n, at - place}
			break search
		case n > best.Size:
			best = Token{n, at - place}
		}
		gap := f.gaps[place%len(f.gaps)]
		place, there = place-gap, gap > 0
	}
	return best
}

// learn takes in the places ahead of one that three bytes begin at.
func (f *finder) learn(at int) {
	for ; f.learned < at; f.learned++ {
		here := f.threeAt(f.learned)
		gap := 0
		if place, there := f.newest[here]; there {
			gap = f.learned - place
		}
		f.gaps[f.learned%len(f.gaps)] = gap
		f.newest[here] = f.learned
	}
}

// threeAt answers the three bytes at a place.
func (f *finder) threeAt(at int) three {
	return three(f.text[at]) | three(f.text[at+1])<<8 | three(f.text[at+2])<<16
}

// same answers how many bytes are the same at two places, at most so many.
func (f *finder) same(place, at, most int) int {
	n := 0
	for n < most && f.text[place+n] == f.text[at+n] {
		n++
	}
	return n
}
