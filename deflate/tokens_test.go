package deflate_test

import (
	"fmt"
	"math"
	"slices"
	"strings"
	"testing"

	"engrosser/byhand"
	"engrosser/deflate"
	"engrosser/sample"
)

// token is written shortly.
type token = deflate.Token

// one stands for a byte as it is.
var one = token{Size: 1}

// ones answers so many of them.
func ones(n int) []token { return slices.Repeat([]token{one}, n) }

// wordsTokens answers Tokens in the words of P11.1, one place back after the other.
func wordsTokens(s string, from, to int) []token {
	if from < 0 || from > to || to > len(s) {
		return nil
	}
	var tokens []token
	for at := from; at < to; {
		best := one
		if at+3 <= to {
			places := 0
			for back := 1; back <= 32768 && back <= at && places < 16; back++ {
				if s[at-back:at-back+3] != s[at:at+3] {
					continue
				}
				places++
				n := 0
				for n < 258 && at+n < to && s[at-back+n] == s[at+n] {
					n++
				}
				if n > best.Size {
					best = token{Size: n, Back: back}
				}
			}
		}
		tokens = append(tokens, best)
		at += best.Size
	}
	return tokens
}

// short answers tokens, or the first ones.
func short(tokens []token) string {
	if len(tokens) > 12 {
		return fmt.Sprint(tokens[:12], " .. ", len(tokens), " in all")
	}
	return fmt.Sprint(tokens)
}

// checkTokens holds Tokens against what is told.
func checkTokens(t *testing.T, s string, from, to int, want ...token) {
	t.Helper()
	if got := deflate.Tokens(s, from, to); !slices.Equal(got, want) {
		t.Errorf("Tokens(%.40q (%d bytes), %d, %d): got %s, not %s", s, len(s), from, to, short(got), short(want))
	}
}

// checkLast: what stands behind s is told by such tokens, whatever stands behind that.
func checkLast(t *testing.T, s, last string, want ...token) {
	t.Helper()
	checkTokens(t, s+last, len(s), len(s)+len(last), want...)
	checkTokens(t, s+last+last, len(s), len(s)+len(last), want...)
}

// P11.1: what can be told by hand.
func TestTokensKnown(t *testing.T) {
	for _, c := range []struct {
		s        string
		from, to int
		want     []token
	}{
		{"", 0, 0, nil},
		{"a", 0, 1, ones(1)},
		{"ab", 0, 2, ones(2)},
		{"aa", 0, 2, ones(2)},
		{"aaa", 0, 3, ones(3)},
		{"aaaa", 0, 4, []token{one, {3, 1}}},
		{"abab", 0, 4, ones(4)},
		{"ababa", 0, 5, []token{one, one, {3, 2}}},
		{"ababab", 0, 6, []token{one, one, {4, 2}}},
		{"abcab", 0, 5, ones(5)},
		{"abcabc", 0, 6, []token{one, one, one, {3, 3}}},
		{"abcabcabcabc", 0, 12, []token{one, one, one, {9, 3}}},
		{"abcdabce", 0, 8, []token{one, one, one, one, {3, 4}, one}},
		{"abcXabcdYabcd", 9, 13, []token{{4, 5}}},
		{"abcdXabcYabcd", 9, 13, []token{{4, 9}}},
		{"abcdXabcdYabcd", 10, 14, []token{{4, 5}}},
		{"abc1abc2abc", 8, 11, []token{{3, 4}}},
		{"abcdeabcdeXbcdeY", 0, 16, []token{one, one, one, one, one, {5, 5}, one, {4, 5}, one}},
		{"aaaaaaXaaaY", 0, 11, []token{one, {5, 1}, one, {3, 4}, one}},
	} {
		checkTokens(t, c.s, c.from, c.to, c.want...)
	}
}

// P11.1: each short text, and each range in it, also those that are none.
func TestTokensShort(t *testing.T) {
	for letters, most := range map[int]int{1: 10, 2: 9, 3: 6} {
		count := 1
		for n := range most + 1 {
			for i := range count {
				b := make([]byte, n)
				for at, left := 0, i; at < n; at++ {
					b[at], left = 'a'+byte(left%letters), left/letters
				}
				s := string(b)
				for from := -2; from <= n+2; from++ {
					for to := -2; to <= n+2; to++ {
						checkTokens(t, s, from, to, wordsTokens(s, from, to)...)
					}
				}
			}
			count *= letters
		}
	}
}

// P11.1: ranges of longer texts.
func TestTokensRanges(t *testing.T) {
	t.Parallel()
	for _, s := range someTexts() {
		s = s[:min(len(s), 1500)]
		n := len(s)
		for _, r := range [][2]int{{0, n}, {0, n / 2}, {n / 2, n}, {n / 3, n - n/3}, {n / 4, n - 1}, {1, n}, {n - 1, n}, {n - 2, n}, {n - 3, n}, {n - 4, n}, {n, n}, {0, 0}, {n / 2, n / 2}, {n / 2, n/2 + 2}, {n / 2, n/2 + 3}, {n / 2, n/2 + 4}} {
			checkTokens(t, s, r[0], r[1], wordsTokens(s, r[0], r[1])...)
		}
	}
}

// P11.1: nothing of ranges that are none.
func TestTokensNone(t *testing.T) {
	for _, s := range []string{"", "a", "abcabc", strings.Repeat("x", 600), sample.Text(40000, 1)} {
		n := len(s)
		for _, far := range []int{1, 2, 3, 258, 32768, 1 << 31, 1 << 32, 1 << 62} {
			for _, r := range [][2]int{{-far, n}, {-far, 0}, {-far, -far}, {0, n + far}, {n, n + far}, {n + far, n + far}, {n + far, n}, {0, -far}, {n, n - far}, {-far, n + far}, {n + far, -far}} {
				if r[0] < 0 || r[1] < r[0] || r[1] > n {
					checkTokens(t, s, r[0], r[1])
				}
			}
		}
		for _, from := range []int{math.MinInt, math.MinInt + 1, math.MaxInt - 1, math.MaxInt} {
			for _, to := range []int{math.MinInt, -1, 0, n, n + 1, math.MaxInt} {
				checkTokens(t, s, from, to)
			}
		}
		for from := range min(n, 9) + 1 {
			checkTokens(t, s, from, math.MaxInt)
			checkTokens(t, s, from, math.MinInt)
			checkTokens(t, s, from, from)
		}
	}
}

// P11.1: of long texts that are known: 258 bytes are the most, and two bytes are too few.
func TestTokensMost(t *testing.T) {
	for n := range 1100 {
		var want []token
		left := n
		if n > 0 {
			want, left = ones(1), n-1
		}
		for ; left >= 3; left -= min(left, 258) {
			want = append(want, token{Size: min(left, 258), Back: 1})
		}
		checkTokens(t, strings.Repeat("x", n), 0, n, append(want, ones(left)...)...)
	}
	whole := unlike(1000, 1)
	for n := 3; n <= 1000; n++ {
		var want []token
		left := n
		for ; left >= 3; left -= min(left, 258) {
			want = append(want, token{Size: min(left, 258), Back: 1000})
		}
		checkTokens(t, whole+whole, 1000, 1000+n, append(want, ones(left)...)...)
	}
}

// P11.1: the bytes behind the range count in no way: not as three bytes, not as more.
func TestTokensEnd(t *testing.T) {
	s := unlike(50, 1)
	for n := range 51 {
		want := []token{{Size: n, Back: 50}}
		if n < 3 {
			want = ones(n)
		}
		checkTokens(t, s+s+s, 50, 50+n, want...)
		checkTokens(t, s+s[:n], 50, 50+n, want...)
	}
	// As many bytes are the same in both, up to the end: the nearer one is taken.
	checkTokens(t, "abcde.abcdX.abcde", 12, 16, token{4, 6})
	checkTokens(t, "abcde.abcdX.abcde", 12, 17, token{5, 12})
	// Bytes that are said may be among those that say them, up to the end.
	checkTokens(t, "ababababab", 2, 5, token{3, 2})
	checkTokens(t, "ababababab", 2, 9, token{7, 2})
}

// P11.1: of those where the most bytes are the same the nearest, wherever they stand.
func TestTokensNearest(t *testing.T) {
	whole := unlike(300, 1)
	sizes := []int{3, 4, 5, 10, 257, 258, 259, 300}
	for _, first := range sizes {
		for _, second := range sizes {
			for _, third := range sizes {
				s, sum := "", 0
				var places []int
				for i, n := range []int{first, second, third} {
					places = append(places, sum)
					s += whole[:n] + unlike(7, 2+i)
					sum += n + 7
				}
				best := min(258, max(first, second, third))
				place := places[0]
				for i, n := range []int{first, second, third} {
					if n >= best {
						place = places[i]
					}
				}
				checkTokens(t, s+whole, sum, sum+best, token{Size: best, Back: sum - place})
			}
		}
	}
}

// P11.1: sixteen places are looked at, whatever stands there, and not one more.
func TestTokensPlaces(t *testing.T) {
	whole := unlike(6, 1)
	for places := range 40 {
		// The farthest one has all bytes, each of the others four.
		s := whole
		for i := range places {
			s += string([]byte{0xff, byte(i)}) + whole[:4]
		}
		s += "\xfe"
		want := []token{{6, len(s)}}
		if places >= 16 {
			want = []token{{4, 5}, one, one}
		}
		checkLast(t, s, whole, want...)
	}
	for places := 1; places < 40; places++ {
		// Each byte of a run is a place of its own.
		s := "zzz!" + unlike(5, 1) + strings.Repeat("z", places+2) + "."
		want := []token{{4, len(s)}}
		if places >= 16 {
			want = []token{{3, 4}, one}
		}
		checkLast(t, s, "zzz!", want...)
	}
}

// P11.1: what is 32768 bytes away is looked at, and nothing that is farther.
func TestTokensFar(t *testing.T) {
	t.Parallel()
	whole := unlike(12, 1)
	for _, ahead := range []int{0, 1, 2, 100, 32767, 32768, 40000} {
		for _, back := range []int{32700, 32766, 32767, 32768, 32769, 32770, 32800, 40000, 65535, 65536, 65537} {
			want := []token{{12, back}}
			if back > 32768 {
				want = ones(12)
			}
			checkLast(t, unlike(ahead, 2)+whole+unlike(back-12, 3), whole, want...)
			// Where fewer bytes are the same, but which is near enough.
			if back > 32768 {
				want = append([]token{{5, 100}}, ones(7)...)
			}
			checkLast(t, unlike(ahead, 2)+whole+unlike(back-112, 3)+whole[:5]+unlike(95, 4), whole, want...)
		}
	}
}

// P11.1: all distances: a text that is there twice, so far apart.
func TestTokensApart(t *testing.T) {
	for _, back := range []int{1, 2, 3, 4, 5, 6, 7, 8, 9, 12, 13, 16, 17, 24, 25, 32, 33, 256, 257, 258, 259, 1000, 4097, 8192, 16384, 16385, 24577, 32767, 32768} {
		s := unlike(back, 1)
		twice := strings.Repeat(s, 2+600/back)
		var want []token
		for left := len(twice) - back; left > 0; left -= min(left, 258) {
			if left < 3 {
				want = append(want, ones(left)...)
				break
			}
			want = append(want, token{Size: min(left, 258), Back: back})
		}
		checkTokens(t, twice, back, len(twice), want...)
	}
}

// P11.1: long texts, and ranges of them that begin in their midst.
func TestTokensLong(t *testing.T) {
	t.Parallel()
	for _, s := range someTexts() {
		n := len(s)
		for _, r := range [][2]int{{0, n}, {n / 2, n}, {max(0, n-40000), n}, {n / 5, n - n/4}, {n - n/100, n}} {
			var want []token
			for _, x := range byhand.Tokens(s, r[0], r[1]) {
				want = append(want, token(x))
			}
			checkTokens(t, s, r[0], r[1], want...)
		}
	}
}

// P11.4: each token's bytes were there so far back, and all of them together are the text.
func TestTokensSayText(t *testing.T) {
	t.Parallel()
	for _, s := range someTexts() {
		n := len(s)
		for _, r := range [][2]int{{0, n}, {n / 2, n}, {n / 3, n / 2}} {
			at := r[0]
			for _, x := range deflate.Tokens(s, r[0], r[1]) {
				switch {
				case x == one:
				case x.Size < 3 || x.Size > 258 || x.Back < 1 || x.Back > 32768 || x.Back > at || at+x.Size > r[1]:
					t.Fatalf("%.30q (%d bytes): %v at %d", s, n, x, at)
				case s[at:at+x.Size] != s[at-x.Back:at-x.Back+x.Size]:
					t.Fatalf("%.30q (%d bytes): %v at %d: other bytes", s, n, x, at)
				}
				at += x.Size
			}
			if at != r[1] {
				t.Errorf("%.30q (%d bytes): tokens of %v end at %d", s, n, r, at)
			}
		}
	}
}
