package deflate_test

import (
	"math"
	"slices"
	"testing"

	"engrosser/byhand"
	"engrosser/deflate"
)

// repeated answers so many of n.
func repeated(n, count int) []int { return slices.Repeat([]int{n}, count) }

// checkRuns holds Runs against what is told.
func checkRuns(t *testing.T, lengths []int, want ...byhand.Run) {
	t.Helper()
	var symbols, values []int
	for _, r := range want {
		symbols, values = append(symbols, r[0]), append(values, r[1])
	}
	if got, gotValues := deflate.Runs(lengths); !slices.Equal(got, symbols) || !slices.Equal(gotValues, values) {
		t.Errorf("Runs(%v): got %v, %v, not %v, %v", lengths, got, gotValues, symbols, values)
	}
}

// P11.2: what can be told by hand: each number of zeros, and of others, at which something changes.
func TestRunsKnown(t *testing.T) {
	checkRuns(t, nil)
	checkRuns(t, []int{})
	for n, want := range map[int][]byhand.Run{
		1: {{0, 0}}, 2: {{0, 0}, {0, 0}}, 3: {{17, 0}}, 4: {{17, 1}}, 9: {{17, 6}}, 10: {{17, 7}}, 11: {{18, 0}}, 12: {{18, 1}}, 137: {{18, 126}}, 138: {{18, 127}},
		139: {{18, 127}, {0, 0}}, 140: {{18, 127}, {0, 0}, {0, 0}}, 141: {{18, 127}, {17, 0}}, 148: {{18, 127}, {17, 7}}, 149: {{18, 127}, {18, 0}}, 276: {{18, 127}, {18, 127}}, 279: {{18, 127}, {18, 127}, {17, 0}},
	} {
		checkRuns(t, repeated(0, n), want...)
		checkRuns(t, append(repeated(0, n), 3), append(want, byhand.Run{3, 0})...)
		checkRuns(t, append([]int{3}, repeated(0, n)...), append([]byhand.Run{{3, 0}}, want...)...)
	}
	for x := 1; x <= 15; x++ {
		once := byhand.Run{x, 0}
		for n, want := range map[int][]byhand.Run{
			1: {once}, 2: {once, once}, 3: {once, once, once}, 4: {once, {16, 0}}, 5: {once, {16, 1}}, 6: {once, {16, 2}}, 7: {once, {16, 3}},
			8: {once, {16, 3}, once}, 9: {once, {16, 3}, once, once}, 10: {once, {16, 3}, {16, 0}}, 12: {once, {16, 3}, {16, 2}}, 13: {once, {16, 3}, {16, 3}}, 14: {once, {16, 3}, {16, 3}, once}, 15: {once, {16, 3}, {16, 3}, once, once}, 16: {once, {16, 3}, {16, 3}, {16, 0}},
		} {
			checkRuns(t, repeated(x, n), want...)
			checkRuns(t, append(repeated(x, n), 0), append(want, byhand.Run{0, 0})...)
			checkRuns(t, append(repeated(0, 3), repeated(x, n)...), append([]byhand.Run{{17, 0}}, want...)...)
			checkRuns(t, append([]int{x%15 + 1}, repeated(x, n)...), append([]byhand.Run{{x%15 + 1, 0}}, want...)...)
		}
	}
}

// checkTold holds Runs of lengths against the chapter's words, and what it tells against the lengths.
func checkTold(t *testing.T, lengths []int) {
	t.Helper()
	checkRuns(t, lengths, byhand.Runs(lengths)...)
	var told []int
	symbols, values := deflate.Runs(lengths)
	for i, symbol := range symbols {
		value, most := values[i], 0
		switch symbol {
		case 16:
			told, most = append(told, repeated(told[len(told)-1], 3+value)...), 3
		case 17:
			told, most = append(told, repeated(0, 3+value)...), 7
		case 18:
			told, most = append(told, repeated(0, 11+value)...), 127
		default:
			told = append(told, symbol)
		}
		if value < 0 || value > most {
			t.Errorf("Runs(%v): %d behind %d", lengths, value, symbol)
		}
	}
	if !slices.Equal(told, lengths) {
		t.Errorf("Runs(%v): %v, %v tell %v", lengths, symbols, values, told)
	}
}

// P11.2: one length, so many times.
func TestRunsAlike(t *testing.T) {
	for x := range 16 {
		for n := range 450 {
			checkTold(t, repeated(x, n))
		}
	}
}

// P11.2: all short lists of some lengths.
func TestRunsShort(t *testing.T) {
	for _, some := range [][]int{{0, 1}, {5, 7}, {0, 15, 1}} {
		count := 1
		for n := range 9 {
			for i := range count {
				lengths := make([]int, n)
				for at, left := 0, i; at < n; at++ {
					lengths[at], left = some[left%len(some)], left/len(some)
				}
				checkTold(t, lengths)
			}
			count *= len(some)
		}
	}
}

// P11.2: lists of three parts, each of so many alike.
func TestRunsParts(t *testing.T) {
	sizes := []int{0, 1, 2, 3, 4, 6, 7, 8, 10, 11, 13, 137, 138, 139, 141, 149}
	for _, x := range [][3]int{{0, 8, 0}, {8, 0, 8}, {8, 9, 8}, {1, 0, 2}, {0, 15, 1}, {8, 8, 9}, {0, 0, 8}} {
		for _, first := range sizes {
			for _, second := range sizes {
				for _, third := range sizes {
					checkTold(t, slices.Concat(repeated(x[0], first), repeated(x[1], second), repeated(x[2], third)))
				}
			}
		}
	}
}

// P1: numbers that are no lengths, and lists that are long.
func TestRunsAny(t *testing.T) {
	for _, x := range []int{16, 17, 18, 19, 1 << 32, math.MaxInt, -1, -16, -1 << 32, math.MinInt} {
		for n := range 10 {
			symbols, values := deflate.Runs(append(repeated(x, n), 0, 0, 0, x))
			if len(symbols) != len(values) {
				t.Errorf("%d: %d symbols, %d values", x, len(symbols), len(values))
			}
		}
	}
	for x := range 2 {
		lengths := repeated(x, 1<<16)
		checkRuns(t, lengths, byhand.Runs(lengths)...)
	}
}

// P3: lengths are neither written into nor kept; what is answered is new memory, spare room too.
func TestRunsAreNew(t *testing.T) {
	memory := []int{5, 5, 5, 5, 0, 0, 0, 9, 9, 9}
	before := slices.Clone(memory)
	lengths := memory[:7]
	symbols, values := deflate.Runs(lengths)
	again, againValues := deflate.Runs(lengths)
	if !slices.Equal(memory, before) {
		t.Error("written into")
	}
	spoil := func(l []int) {
		for i := range l[:cap(l)] {
			l[:cap(l)][i] = -77
		}
	}
	spoil(symbols)
	if !slices.Equal(values, []int{0, 0, 0}) {
		t.Errorf("values are now %v", values)
	}
	spoil(values)
	if !slices.Equal(memory, before) {
		t.Error("part of the answer")
	}
	spoil(memory)
	if !slices.Equal(again, []int{5, 16, 17}) || !slices.Equal(againValues, []int{0, 0, 0}) {
		t.Errorf("got %v, %v", again, againValues)
	}
	checkRuns(t, before[:7], byhand.Run{5, 0}, byhand.Run{16, 0}, byhand.Run{17, 0})
}
