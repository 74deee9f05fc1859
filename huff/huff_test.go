package huff

import (
	"math"
	"slices"
	"strconv"
	"strings"
	"sync"
	"testing"
	"unsafe"

	"engrosser/api"
	"engrosser/sample"
)

// mosts are all numbers of bits that Lengths may be asked for, of not too many counts.
var mosts = []int{7, 9, 10, 11, 12, 13, 14, 15}

// group is a node of wordsLengths, with all symbols in it.
type group struct {
	weight, number int
	symbols        []int
}

// wordsLengths answers Lengths step by step, in the chapter's words, of arguments that may be.
func wordsLengths(counts []int, most int) []int {
	counts = slices.Clone(counts)
	for {
		lengths := make([]int, len(counts))
		var nodes []group
		for i, n := range counts {
			if n != 0 {
				nodes = append(nodes, group{n, i, []int{i}})
			}
		}
		if len(nodes) == 1 {
			lengths[nodes[0].number] = 1
			return lengths
		}
		for number := len(counts); len(nodes) > 1; number++ {
			var first, second group
			first, nodes = withoutLeast(nodes)
			second, nodes = withoutLeast(nodes)
			one := group{first.weight + second.weight, number, slices.Concat(first.symbols, second.symbols)}
			for _, i := range one.symbols {
				lengths[i]++
			}
			nodes = append(nodes, one)
		}
		if slices.Max(append([]int{0}, lengths...)) <= most {
			return lengths
		}
		for i, n := range counts {
			counts[i] = int(math.Ceil(float64(n) / 2))
		}
	}
}

// withoutLeast answers the node with the least weight, among these with the least number, and the others, in any order, in the memory of all.
func withoutLeast(nodes []group) (group, []group) {
	at, last := 0, len(nodes)-1
	for i := range nodes {
		if n, least := &nodes[i], &nodes[at]; n.weight < least.weight || n.weight == least.weight && n.number < least.number {
			at = i
		}
	}
	nodes[at], nodes[last] = nodes[last], nodes[at]
	return nodes[last], nodes[:last]
}

// wordsShare answers the sum of P9.2.
func wordsShare(lengths []int) int {
	sum := 0
	for _, n := range lengths {
		if n != 0 {
			sum += int(math.Pow(2, float64(15-n)))
		}
	}
	return sum
}

// wordsCodes answers Codes one length behind the other, in the chapter's words, each code as its bits, of lengths that may be; "" of a length 0.
func wordsCodes(lengths []int) []string {
	codes := make([]string, len(lengths))
	behind := 0
	for n := 1; n <= 15; n++ {
		behind *= 2
		for i, length := range lengths {
			if length == n {
				bits := strconv.FormatInt(int64(behind), 2)
				codes[i] = strings.Repeat("0", n-len(bits)) + bits
				behind++
			}
		}
	}
	return codes
}

// wordsError answers the error of New of lengths.
func wordsError(lengths []int) api.Errno {
	count := 0
	for _, n := range lengths {
		if n < 0 || n > 15 {
			return api.ErrArg
		}
		if n != 0 {
			count++
		}
	}
	switch {
	case len(lengths) > 300:
		return api.ErrArg
	case wordsShare(lengths) == 1<<15, count == 0, count == 1 && slices.Contains(lengths, 1):
		return api.OK
	}
	return api.ErrForm
}

// wordsNext answers Next of the code with such codes, of the bits of s as bitsOf tells them.
func wordsNext(codes []string, bits string, at int) (symbol, next int, e api.Errno) {
	for n := 1; n <= 15; n++ {
		if at+n > len(bits) {
			return 0, 0, api.ErrNone
		}
		for i, code := range codes {
			if code != "" && code == bits[at:at+n] {
				return i, at + n, api.OK
			}
		}
	}
	return 0, 0, api.ErrForm
}

// bitsOf answers the bits of s as digits, the lowest one of each byte first.
func bitsOf(s string) string {
	var b strings.Builder
	for i := range len(s) {
		for j := range 8 {
			b.WriteByte('0' + s[i]>>j&1)
		}
	}
	return b.String()
}

// packed answers the text whose bits are such digits, with what fills up the last byte.
func packed(bits string, fill byte) string {
	for len(bits)%8 != 0 {
		bits += string(fill)
	}
	b := make([]byte, len(bits)/8)
	for i := range bits {
		b[i/8] |= (bits[i] - '0') << (i % 8)
	}
	return string(b)
}

// allLists hands on each list of up to so many numbers out of some.
func allLists(most int, numbers []int, each func([]int)) {
	var longer func(l []int)
	longer = func(l []int) {
		each(slices.Clone(l))
		if len(l) == most {
			return
		}
		for _, n := range numbers {
			longer(append(slices.Clone(l), n))
		}
	}
	longer(nil)
}

// numbers answers so many numbers from 0 to last that follow no plain rule, some of them small.
func numbers(count, last, seed int) []int {
	s := sample.Text(9*count, seed)
	l := make([]int, count)
	for i := range l {
		x := 0
		for _, b := range []byte(s[9*i : 9*i+7]) {
			x = x<<8 | int(b)
		}
		l[i] = x >> (s[9*i+7] % 56) % (last + 1)
		if s[9*i+8]%5 == 0 {
			l[i] = 0
		}
	}
	return l
}

// repeated answers so many of n.
func repeated(n, count int) []int { return slices.Repeat([]int{n}, count) }

// fibonacci answers so many numbers, each one the two ahead of it; up to 58 of them are counts.
func fibonacci(count int) []int {
	l := []int{1, 1}
	for len(l) < count {
		l = append(l, l[len(l)-1]+l[len(l)-2])
	}
	return l[:count]
}

// someCounts answers lists of counts: even ones, steep ones, those of texts, and others.
func someCounts() [][]int {
	powers := []int{}
	for i := range 41 {
		powers = append(powers, 1<<i)
	}
	all := [][]int{powers, slices.Concat(powers, powers), repeated(1<<40, 300), repeated(1<<40-1, 299), slices.Concat(powers, repeated(1, 259)), slices.Concat(repeated(1<<40, 20), repeated(1, 280))}
	for n := range 59 {
		l := fibonacci(n)
		back := slices.Clone(l)
		slices.Reverse(back)
		all = append(all, l, back, slices.Concat([]int{0, 0}, l, []int{0}))
	}
	for _, n := range []int{0, 1, 2, 3, 4, 5, 6, 7, 8, 9, 15, 16, 17, 18, 19, 20, 30, 31, 33, 64, 100, 255, 256, 257, 285, 286, 288, 299, 300} {
		all = append(all, repeated(1, n), repeated(0, n), repeated(7, n))
		for seed, last := range []int{1, 2, 3, 10, 100, 5000, 1 << 20, 1<<40 - 1, 1 << 40} {
			all = append(all, numbers(n, last, seed))
		}
	}
	return all
}

// someLengths answers lists of lengths: those that leave nothing, and others that leave some or have too many.
func someLengths() [][]int {
	steep := []int{1, 2, 3, 4, 5, 6, 7, 8, 9, 10, 11, 12, 13, 14, 15, 15}
	back := slices.Clone(steep)
	slices.Reverse(back)
	fixed := slices.Concat(repeated(8, 144), repeated(9, 112), repeated(7, 24), repeated(8, 8))
	all := [][]int{
		nil, {}, steep, back, steep[:15], append(slices.Clone(steep), 15), append(slices.Clone(steep), 0), {14: 15, 15: 15}, append(slices.Clone(steep), 1), fixed, fixed[:287], repeated(5, 32), repeated(5, 30), repeated(5, 33),
		repeated(0, 299), repeated(0, 300), append(repeated(0, 299), 1), append(repeated(0, 299), 2), append(repeated(0, 299), 15), repeated(8, 256), repeated(8, 255), repeated(8, 257), repeated(15, 300), repeated(9, 300), repeated(1, 300),
		slices.Concat([]int{1}, repeated(9, 256)), slices.Concat(repeated(8, 212), repeated(9, 88)), slices.Concat(repeated(9, 88), repeated(8, 212)),
	}
	for n := 1; n <= 15; n++ {
		all = append(all, []int{n}, []int{0, n}, []int{n, 0, n}, slices.Concat(steep[:n], []int{n}), slices.Concat(steep[:n-1], []int{n}), slices.Concat([]int{n}, steep[:n], []int{n}))
	}
	for _, counts := range someCounts() {
		if len(counts) < 20 {
			all = append(all, wordsLengths(counts, 7))
		}
		all = append(all, wordsLengths(counts, 9), wordsLengths(counts, 15))
	}
	return all
}

// checkLengths holds Lengths against the chapter's words.
func checkLengths(t *testing.T, counts []int, most int) {
	t.Helper()
	if most == 7 && len(counts) > 19 {
		return
	}
	want := wordsLengths(counts, most)
	if got, ok := Lengths(counts, most); !slices.Equal(got, want) || !ok {
		t.Errorf("Lengths(%v, %d): got %v, %v, not %v", counts, most, got, ok, want)
	}
}

// P9.1: lengths that were reckoned by hand.
func TestLengthsKnown(t *testing.T) {
	for _, c := range []struct{ counts, want []int }{
		{nil, nil}, {[]int{0}, []int{0}}, {[]int{0, 0, 0}, []int{0, 0, 0}}, // no symbol
		{[]int{1}, []int{1}}, {[]int{1 << 40}, []int{1}}, {[]int{0, 9, 0}, []int{0, 1, 0}}, // one alone
		{[]int{1, 1}, []int{1, 1}}, {[]int{0, 1, 0, 1 << 40}, []int{0, 1, 0, 1}},
		{[]int{1, 1, 1}, []int{2, 2, 1}}, {[]int{0, 1, 0, 1, 1}, []int{0, 2, 0, 2, 1}}, // of one weight the least number first
		{[]int{1, 1, 2, 2}, []int{2, 2, 2, 2}}, {[]int{2, 2, 1, 1}, []int{2, 2, 2, 2}}, // a symbol ahead of what was joined
		{[]int{2, 1, 1}, []int{1, 2, 2}}, {[]int{1, 1, 2, 3, 3}, []int{3, 3, 2, 2, 2}},
		{[]int{1, 1, 1, 1, 2, 2}, []int{3, 3, 3, 3, 2, 2}}, {[]int{1, 1, 1, 1, 1, 3}, []int{3, 3, 3, 3, 2, 2}},
		{[]int{45, 13, 12, 16, 9, 5}, []int{1, 3, 3, 3, 4, 4}},
		{[]int{1, 2, 4, 8, 16, 32, 64}, []int{6, 6, 5, 4, 3, 2, 1}},
		{[]int{1, 2, 4, 8, 16, 32, 64, 128}, []int{7, 7, 6, 5, 4, 3, 2, 1}},         // just as long as may be
		{[]int{1, 2, 4, 8, 16, 32, 64, 128, 256}, []int{7, 7, 7, 7, 5, 4, 3, 2, 1}}, // 8 bits: halved, 1 1 2 4 8 16 32 64 128, has 8 bits still; again, 1 1 1 2 4 8 16 32 64, has 7
	} {
		if got, ok := Lengths(c.counts, 7); !slices.Equal(got, c.want) || !ok {
			t.Errorf("%v: got %v, %v, not %v", c.counts, got, ok, c.want)
		}
	}
}

// P9.1: short lists of small counts, all of them.
func TestLengthsShort(t *testing.T) {
	allLists(6, []int{0, 1, 2, 3, 5}, func(counts []int) { checkLengths(t, counts, 7) })
	allLists(8, []int{0, 1, 2}, func(counts []int) { checkLengths(t, counts, 15) })
}

// P9.1: lists of all sizes and shapes, for each number of bits.
func TestLengthsLong(t *testing.T) {
	for _, counts := range someCounts() {
		for _, most := range mosts {
			checkLengths(t, counts, most)
		}
	}
}

// P9.1: steep counts need as many bits as there are symbols, less one, if so many may be; else they are halved till there are fewer.
func TestLengthsMost(t *testing.T) {
	for n := 2; n < 59; n++ {
		for _, most := range mosts {
			got, ok := Lengths(fibonacci(n), most)
			if most == 7 && n > 19 {
				continue
			}
			if last := slices.Max(append(got, 0)); !ok || last > most || n-1 <= most && last != n-1 {
				t.Errorf("%d counts, %d bits: got %v, %v", n, most, got, ok)
			}
		}
	}
}

// P9.1: a text with such counts has the fewest bits that it can have, as many as all that is joined weighs, if no code is longer than may be.
func TestLengthsFewest(t *testing.T) {
	for _, counts := range someCounts() {
		got, _ := Lengths(counts, 15)
		left := slices.DeleteFunc(slices.Clone(counts), func(n int) bool { return n == 0 })
		if len(left) < 2 || slices.Max(wordsLengths(counts, math.MaxInt)) > 15 {
			continue
		}
		fewest, sum := 0, 0
		for len(left) > 1 {
			slices.Sort(left)
			left = append(left[2:], left[0]+left[1])
			fewest += left[len(left)-1]
		}
		for i, n := range counts {
			sum += n * got[i]
		}
		if sum != fewest {
			t.Errorf("%v: %d bits, not %d", counts, sum, fewest)
		}
	}
}

// P9.1: numbers of bits that may not be asked for.
func TestLengthsMostWrong(t *testing.T) {
	for n := range 301 {
		counts := repeated(1, n)
		for most := -20; most < 40; most++ {
			want := most >= 9 && most <= 15 || most == 7 && n <= 19
			got, ok := Lengths(counts, most)
			if ok != want || !ok && len(got) != 0 || ok && len(got) != n {
				t.Errorf("%d counts, %d bits: got %v, %v", n, most, got, ok)
			}
		}
		for _, most := range []int{math.MinInt, math.MinInt + 7, -1 << 32, 1<<32 + 9, 1<<62 + 15, math.MaxInt} {
			if got, ok := Lengths(counts, most); len(got) != 0 || ok {
				t.Errorf("%d counts, %d bits: got %v, %v", n, most, got, ok)
			}
		}
	}
}

// P9.1: too many counts, and counts that may not be, at each place.
func TestLengthsWrong(t *testing.T) {
	for _, n := range []int{301, 302, 512, 5000} {
		for _, count := range []int{0, 1, -1} {
			for _, most := range mosts {
				if got, ok := Lengths(repeated(count, n), most); len(got) != 0 || ok {
					t.Errorf("%d counts: got %v, %v", n, got, ok)
				}
			}
		}
	}
	for _, n := range []int{1, 2, 5, 19, 300} {
		for at := range n {
			for _, wrong := range []int{-1, -2, -1 << 40, math.MinInt, math.MinInt + 1, 1<<40 + 1, 1 << 41, 1<<63 - 1, 1<<62 + 5} {
				counts := repeated(1, n)
				counts[at] = wrong
				if got, ok := Lengths(counts, 9); len(got) != 0 || ok {
					t.Errorf("%d at %d: got %v, %v", wrong, at, got, ok)
				}
			}
		}
	}
}

// checkCodes holds Codes against the chapter's words.
func checkCodes(t *testing.T, lengths []int) {
	t.Helper()
	want, wantError := []int(nil), api.ErrForm
	if wordsShare(lengths) <= 1<<15 {
		want, wantError = make([]int, len(lengths)), api.OK
		for i, code := range wordsCodes(lengths) {
			if code != "" {
				n, _ := strconv.ParseInt(code, 2, 64)
				want[i] = int(n)
			}
		}
	}
	if got, e := Codes(lengths); !slices.Equal(got, want) || e != wantError {
		t.Errorf("Codes(%v): got %v, %d, not %v, %d", lengths, got, e, want, wantError)
	}
}

// P9.2: the chapter's example, those of RFC 1951, and its fixed codes.
func TestCodesKnown(t *testing.T) {
	for _, c := range []struct{ lengths, want []int }{
		{[]int{2, 1, 3, 3}, []int{0b10, 0, 0b110, 0b111}}, {[]int{2, 1, 0, 3, 3}, []int{0b10, 0, 0, 0b110, 0b111}},
		{[]int{3, 3, 3, 3, 3, 2, 4, 4}, []int{0b010, 0b011, 0b100, 0b101, 0b110, 0b00, 0b1110, 0b1111}},
		{nil, nil}, {[]int{0, 0}, []int{0, 0}}, {[]int{1}, []int{0}}, {[]int{1, 1}, []int{0, 1}}, {[]int{15}, []int{0}}, {[]int{15, 0, 15}, []int{0, 0, 1}},
		{[]int{1, 15}, []int{0, 1 << 14}}, {[]int{15, 3}, []int{1 << 12, 0}}, {[]int{2, 2, 4}, []int{0, 1, 0b1000}}, // lengths with none between, and codes that leave some
	} {
		if got, e := Codes(c.lengths); !slices.Equal(got, c.want) || e != api.OK {
			t.Errorf("%v: got %v, %d", c.lengths, got, e)
		}
	}
	got, e := Codes(slices.Concat(repeated(8, 144), repeated(9, 112), repeated(7, 24), repeated(8, 8)))
	if e != api.OK {
		t.Fatalf("the fixed codes: %d", e)
	}
	for i, code := range got {
		want := 0b00110000 + i
		switch {
		case i >= 280:
			want = 0b11000000 + i - 280
		case i >= 256:
			want = i - 256
		case i >= 144:
			want = 0b110010000 + i - 144
		}
		if code != want {
			t.Errorf("the fixed code of %d: got %b", i, code)
		}
	}
}

// P9.2: short lists, all of them, and others.
func TestCodes(t *testing.T) {
	allLists(6, []int{0, 1, 2, 3, 4}, func(lengths []int) { checkCodes(t, lengths) })
	allLists(5, []int{1, 13, 14, 15}, func(lengths []int) { checkCodes(t, lengths) })
	for _, lengths := range someLengths() {
		checkCodes(t, lengths)
	}
}

// P9.2: the sum may be 2^15, and no more: not even by the least that there is.
func TestCodesSum(t *testing.T) {
	for n := 1; n <= 15; n++ {
		lengths := []int{n}
		for i := range n {
			lengths = append(lengths, i+1)
		}
		if _, e := Codes(lengths); e != api.OK {
			t.Errorf("%v: got %d", lengths, e)
		}
		for more := 1; more <= 15; more++ {
			if got, e := Codes(append(slices.Clone(lengths), more)); len(got) != 0 || e != api.ErrForm {
				t.Errorf("%v and %d: got %v, %d", lengths, more, got, e)
			}
		}
	}
}

// P9.2, P9.3: too many lengths, and those that may not be, at each place; ErrArg is told ahead of ErrForm.
func TestLengthsThatMayNotBe(t *testing.T) {
	check := func(lengths []int) {
		t.Helper()
		if got, e := Codes(lengths); len(got) != 0 || e != api.ErrArg {
			t.Errorf("Codes of %d: got %v, %d", len(lengths), got, e)
		}
		if c, e := New(lengths); c != nil || e != api.ErrArg {
			t.Errorf("New of %d: got %v, %d", len(lengths), c, e)
		}
	}
	for _, n := range []int{301, 302, 512, 5000} {
		for _, length := range []int{0, 1, 15, 16, -1} {
			check(repeated(length, n))
		}
		check(append(repeated(0, n-1), 1))
	}
	for _, n := range []int{1, 2, 5, 300} {
		for at := range n {
			for _, wrong := range []int{16, 17, 31, 32, 63, 64, 65, 127, 256, 1 << 32, 1<<32 + 1, math.MaxInt, -1, -2, -15, -64, -1 << 32, math.MinInt, math.MinInt + 1} {
				for _, other := range []int{0, 1, 15} {
					lengths := repeated(other, n)
					lengths[at] = wrong
					check(lengths)
				}
			}
		}
	}
}

// checkNext holds Next of c against the chapter's words, at each bit of s and behind.
func checkNext(t *testing.T, c *Code, codes []string, s string) {
	t.Helper()
	bits := bitsOf(s)
	for at := range len(bits) + 18 {
		symbol, next, e := c.Next(s, at)
		if wantSymbol, wantNext, want := wordsNext(codes, bits, at); symbol != wantSymbol || next != wantNext || e != want {
			t.Errorf("codes %q: Next(%x, %d): got %d, %d, %d, not %d, %d, %d", codes, s, at, symbol, next, e, wantSymbol, wantNext, want)
		}
	}
}

// P9.3: which lengths make a code, and which do not: short lists, all of them, and others; what a code reads of some texts.
func TestNew(t *testing.T) {
	right, wrong := 0, 0
	check := func(lengths []int) {
		c, e := New(lengths)
		if want := wordsError(lengths); e != want || (c == nil) != (e != api.OK) {
			t.Errorf("New(%v): got %v, %d, not %d", lengths, c, e, want)
		}
		if e != api.OK {
			wrong++
			return
		}
		right++
		codes := wordsCodes(lengths)
		for _, s := range []string{"", "\x00", "\xff\xff", "\x55\xaa\x55", sample.Text(12, len(lengths))} {
			checkNext(t, c, codes, s)
		}
	}
	allLists(6, []int{0, 1, 2, 3, 4}, check)
	allLists(5, []int{0, 1, 14, 15}, check)
	for _, lengths := range someLengths() {
		check(lengths)
	}
	if right < 500 || wrong < 500 {
		t.Errorf("%d are codes, %d are none", right, wrong)
	}
}

// P9.3: lengths that leave some bits, or have too many, one by one.
func TestNewForm(t *testing.T) {
	for _, lengths := range [][]int{
		{2}, {3}, {15}, {0, 2}, {2, 2}, {0, 2, 0, 2}, {1, 2}, {1, 3, 3}, {2, 2, 2}, {1, 15}, {1, 2, 3, 4, 5, 6, 7, 8, 9, 10, 11, 12, 13, 14, 15}, // some are left
		{1, 1, 1}, {1, 1, 15}, {1, 2, 2, 2}, {2, 2, 2, 2, 2}, {1, 2, 3, 4, 5, 6, 7, 8, 9, 10, 11, 12, 13, 14, 15, 15, 15}, // too many
	} {
		if c, e := New(lengths); c != nil || e != api.ErrForm {
			t.Errorf("%v: got %v, %d", lengths, c, e)
		}
	}
}

// P9.3: the chapter's code, by hand: where a code begins in a byte, and where it goes over into the next one.
func TestNextKnown(t *testing.T) {
	c, e := New([]int{2, 1, 0, 3, 3})
	if e != api.OK {
		t.Fatal(e)
	}
	for _, x := range []struct {
		s                string
		at, symbol, next int
		e                api.Errno
	}{
		{"\x02", 0, 1, 1, api.OK}, {"\x01", 0, 0, 2, api.OK}, {"\x03", 0, 3, 3, api.OK}, {"\x07", 0, 4, 3, api.OK},
		{"\x80\x01", 7, 3, 10, api.OK}, {"\x80\x00", 7, 0, 9, api.OK}, {"\x80\x03", 7, 4, 10, api.OK}, {"\x7f\x00", 7, 1, 8, api.OK},
		{"\xc0", 6, 0, 0, api.ErrNone}, {"\x80", 7, 0, 0, api.ErrNone}, {"\x7f", 7, 1, 8, api.OK}, {"\xe0", 5, 4, 8, api.OK}, {"\x60", 5, 3, 8, api.OK}, {"\x40", 6, 0, 8, api.OK},
		{"", 0, 0, 0, api.ErrNone}, {"\x00", 8, 0, 0, api.ErrNone}, {"\x00", 9, 0, 0, api.ErrNone},
	} {
		if symbol, next, e := c.Next(x.s, x.at); symbol != x.symbol || next != x.next || e != x.e {
			t.Errorf("Next(%x, %d): got %d, %d, %d", x.s, x.at, symbol, next, e)
		}
	}
}

// P9.3: places below 0, and far behind the end.
func TestNextPlaces(t *testing.T) {
	for _, lengths := range [][]int{nil, {1}, {1, 1}, {2, 1, 3, 3}, repeated(8, 256)} {
		c, e := New(lengths)
		if e != api.OK {
			t.Fatalf("%v: %d", lengths, e)
		}
		for _, s := range []string{"", "\x00", "\xff", sample.Text(100, 1)} {
			for _, at := range []int{-1, -2, -7, -8, -9, -800, -1 << 32, math.MinInt + 1, math.MinInt} {
				if symbol, next, e := c.Next(s, at); symbol != 0 || next != 0 || e != api.ErrArg {
					t.Errorf("%v: Next(%d bytes, %d): got %d, %d, %d", lengths, len(s), at, symbol, next, e)
				}
			}
			for _, at := range []int{8 * len(s), 8*len(s) + 1, 8*len(s) + 8, 1 << 32, 1<<32 + 3, 1 << 35, 1 << 61, 1 << 62, math.MaxInt - 15, math.MaxInt - 1, math.MaxInt} {
				if symbol, next, e := c.Next(s, at); symbol != 0 || next != 0 || e != api.ErrNone {
					t.Errorf("%v: Next(%d bytes, %d): got %d, %d, %d", lengths, len(s), at, symbol, next, e)
				}
			}
		}
	}
}

// P9.3: bits that begin with no code: where fifteen are there, that is told; where fewer are, that s ends.
func TestNextNoCode(t *testing.T) {
	for _, lengths := range [][]int{nil, {0, 0, 0}, {1}, {0, 0, 1, 0}, repeated(0, 300)} {
		c, e := New(lengths)
		if e != api.OK {
			t.Fatalf("%v: %d", lengths, e)
		}
		for n := range 6 {
			for at := range 8*n + 1 {
				want := api.ErrForm
				if 8*n-at < 15 {
					want = api.ErrNone
				}
				for _, s := range []string{strings.Repeat("\xff", n), strings.Repeat("\x00", n)} {
					if s != "" && s[0] == 0 && slices.Contains(lengths, 1) {
						continue // 0 is the one code
					}
					if symbol, next, e := c.Next(s, at); symbol != 0 || next != 0 || e != want {
						t.Errorf("%v: Next(%x, %d): got %d, %d, %d", lengths, s, at, symbol, next, e)
					}
				}
			}
		}
	}
	c, _ := New([]int{0, 0, 1})
	if symbol, next, e := c.Next("\xff\xbf", 14); symbol != 2 || next != 15 || e != api.OK {
		t.Errorf("the one code: got %d, %d, %d", symbol, next, e)
	}
}

// P9.3: all fifteen bits, of codes of each length: each pattern there is.
func TestNextPatterns(t *testing.T) {
	steep := []int{15, 1, 2, 3, 4, 5, 6, 7, 0, 8, 9, 10, 11, 12, 13, 14, 15}
	c, e := New(steep)
	if e != api.OK {
		t.Fatal(e)
	}
	codes := wordsCodes(steep)
	for i := range 1 << 15 {
		s := string([]byte{byte(i), byte(i >> 8)})
		symbol, next, e := c.Next(s, 0)
		if wantSymbol, wantNext, want := wordsNext(codes, bitsOf(s), 0); symbol != wantSymbol || next != wantNext || e != want || e != api.OK {
			t.Errorf("Next(%x, 0): got %d, %d, %d, not %d, %d, %d", s, symbol, next, e, wantSymbol, wantNext, want)
		}
	}
	// A code whose last bit is the last one of s, and one that has one bit too few.
	all := strings.Repeat("1", 32)
	for at := range 33 {
		symbol, next, e := c.Next(packed(all, '1'), at)
		if left := 32 - at; left >= 15 && (symbol != 16 || next != at+15 || e != api.OK) || left < 15 && (symbol != 0 || next != 0 || e != api.ErrNone) {
			t.Errorf("%d bits are left: got %d, %d, %d", left, symbol, next, e)
		}
	}
}

// P9.4: each symbol that has a code is read back from it, wherever it begins, and whatever stands about it.
func TestReadBack(t *testing.T) {
	for _, lengths := range someLengths() {
		c, e := New(lengths)
		if e != api.OK {
			continue
		}
		codes, _ := Codes(lengths)
		for i, n := range lengths {
			if n == 0 {
				continue
			}
			bits := ""
			for j := range n {
				bits += strconv.Itoa(codes[i] >> (n - 1 - j) & 1)
			}
			for at := range 9 {
				for _, about := range []string{"0", "1"} {
					s := packed(strings.Repeat(about, at)+bits, about[0])
					if symbol, next, e := c.Next(s, at); symbol != i || next != at+n || e != api.OK {
						t.Errorf("%v: symbol %d at %d: got %d, %d, %d", lengths, i, at, symbol, next, e)
					}
				}
			}
		}
	}
}

// P9.4: what Lengths answers makes a code, by which many symbols in a row are read back.
func TestReadBackMany(t *testing.T) {
	for k, counts := range someCounts() {
		for _, most := range mosts {
			lengths, ok := Lengths(counts, most)
			if !ok {
				continue
			}
			c, e := New(lengths)
			if e != api.OK {
				t.Errorf("New of Lengths(%v, %d): %d", counts, most, e)
				continue
			}
			codes := wordsCodes(lengths)
			var symbols []int
			var bits strings.Builder
			for _, x := range numbers(100, 299, k) {
				if x < len(codes) && codes[x] != "" {
					symbols = append(symbols, x)
					bits.WriteString(codes[x])
				}
			}
			s, at := packed(bits.String(), '1'), 0
			for _, want := range symbols {
				symbol, next, e := c.Next(s, at)
				if symbol != want || next != at+lengths[want] || e != api.OK {
					t.Errorf("%v, at %d: got %d, %d, %d, not %d", lengths, at, symbol, next, e, want)
				}
				at = next
			}
		}
	}
}

// P3: lists that are handed in are not written into, nor what stands behind, nor kept.
func TestListsAreNotKept(t *testing.T) {
	memory := []int{1, 1, 2, 4, 1 << 40, 7, 7, 7}
	before := slices.Clone(memory)
	counts := memory[:5]
	if got, ok := Lengths(counts, 9); !slices.Equal(got, []int{4, 4, 3, 2, 1}) || !ok {
		t.Errorf("got %v, %v", got, ok)
	}
	steep := append(fibonacci(40), 7, 7, 7)
	kept := slices.Clone(steep)
	Lengths(steep[:40], 9)
	if !slices.Equal(memory, before) || !slices.Equal(steep, kept) {
		t.Error("counts are written into")
	}
	memory = []int{2, 1, 3, 3, 7, 7}
	before = slices.Clone(memory)
	lengths := memory[:4]
	codes, _ := Codes(lengths)
	c, e := New(lengths)
	if e != api.OK {
		t.Fatal(e)
	}
	if !slices.Equal(memory, before) {
		t.Error("lengths are written into")
	}
	for i := range memory {
		memory[i] = 9
	}
	if !slices.Equal(codes, []int{2, 0, 6, 7}) {
		t.Errorf("codes are now %v", codes)
	}
	checkNext(t, c, wordsCodes(before[:4]), sample.Text(20, 0))
}

// P3: each answer is new memory, its spare room too.
func TestAnswersAreNew(t *testing.T) {
	spoil := func(l []int) {
		l = l[:cap(l)]
		for i := range l {
			l[i] = -77
		}
	}
	counts, lengths := []int{1, 1, 2, 4, 0, 0}, []int{2, 1, 3, 3}
	for range 3 {
		l, ok := Lengths(counts, 9)
		again, _ := Lengths(counts, 9)
		spoil(l)
		if !slices.Equal(again, []int{3, 3, 2, 1, 0, 0}) || !ok || !slices.Equal(counts, []int{1, 1, 2, 4, 0, 0}) {
			t.Errorf("lengths: %v, of %v", again, counts)
		}
		codes, e := Codes(lengths)
		other, _ := Codes(lengths)
		c, _ := New(lengths)
		spoil(codes)
		if !slices.Equal(other, []int{2, 0, 6, 7}) || e != api.OK || !slices.Equal(lengths, []int{2, 1, 3, 3}) {
			t.Errorf("codes: %v, of %v", other, lengths)
		}
		checkNext(t, c, wordsCodes(lengths), sample.Text(20, 0))
	}
}

// P3, P4: a text is neither written into nor kept, and what is read hangs on no call ahead.
func TestNextKeepsNothing(t *testing.T) {
	c, e := New([]int{1, 2, 3, 3})
	if e != api.OK {
		t.Fatal(e)
	}
	memory := []byte{0x0b, 0xff}
	s := unsafe.String(&memory[0], 1)
	for range 3 {
		if symbol, next, e := c.Next(s, 0); symbol != 2 || next != 3 || e != api.OK {
			t.Errorf("got %d, %d, %d", symbol, next, e)
		}
		if symbol, next, e := c.Next("\x00", 0); symbol != 0 || next != 1 || e != api.OK {
			t.Errorf("got %d, %d, %d", symbol, next, e)
		}
		c.Next("\xff", 7)
		c.Next("", 0)
		c.Next("", -1)
	}
	if memory[0] != 0x0b || memory[1] != 0xff {
		t.Error("written into")
	}
	memory[0] = 0
	if symbol, next, e := c.Next(s, 0); symbol != 0 || next != 1 || e != api.OK {
		t.Errorf("another text: got %d, %d, %d", symbol, next, e)
	}
}

// P3: two codes share nothing.
func TestTwoCodes(t *testing.T) {
	one, e1 := New([]int{1, 2, 3, 3})
	other, e2 := New([]int{3, 3, 2, 1})
	third, e3 := New([]int{0, 1})
	if e1 != api.OK || e2 != api.OK || e3 != api.OK {
		t.Fatal(e1, e2, e3)
	}
	s := sample.Text(30, 0)
	checkNext(t, one, wordsCodes([]int{1, 2, 3, 3}), s)
	checkNext(t, other, wordsCodes([]int{3, 3, 2, 1}), s)
	checkNext(t, third, wordsCodes([]int{0, 1}), s)
}

// P4: what others ask at the same time is not to be seen.
func TestAtOneTime(t *testing.T) {
	var wait sync.WaitGroup
	for i := range 8 {
		wait.Go(func() {
			for j := range 20 {
				counts := numbers(30, 1000, 20*i+j)
				lengths, ok := Lengths(counts, 9)
				c, e := New(lengths)
				if !ok || e != api.OK || !slices.Equal(lengths, wordsLengths(counts, 9)) {
					t.Errorf("%v: got %v, %v, %d", counts, lengths, ok, e)
					continue
				}
				checkNext(t, c, wordsCodes(lengths), sample.Text(20, j))
			}
		})
	}
	wait.Wait()
}
