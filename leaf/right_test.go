package leaf_test

import (
	"math"
	"slices"
	"strings"
	"testing"

	"engrosser/api"
	"engrosser/sample"
)

// someSizes are about each edge of how many bytes an entry's texts have.
var someSizes = []int{0, 1, 2, 16, 31, 32, 33, 64, 127, 128, 255, 256, 257, 1000, 1024, 1998, 1999, 2000, 2001, 2002, 4000, 65535, 65536}

// rightTimes and rightIndexes are about each edge of a byte, wrongTimes and wrongIndexes what none may be.
func rightTimes() (all []int) {
	for bit := range 48 {
		all = append(all, 1<<bit-1, 1<<bit, 1<<bit+1)
	}
	return append(all, 0x010203040506, api.MaxTime-1, api.MaxTime)
}

func rightIndexes() (all []int) {
	for bit := range 30 {
		all = append(all, 1<<bit-1, 1<<bit)
	}
	return append(all, 0x01020304, api.MaxSize-2, api.MaxSize-1)
}

var (
	wrongTimes   = []int{api.MaxTime + 1, api.MaxTime + 2, 1 << 49, 1 << 56, 1<<56 + 1, 1 << 62, math.MaxInt, -1, -2, -255, -256, -1 << 31, -1 << 47, -1 << 48, 1 - 1<<48, -1 << 56, math.MinInt, math.MinInt + 1}
	wrongIndexes = []int{api.MaxSize, api.MaxSize + 1, 1<<31 - 1, 1 << 31, 1<<32 - 1, 1 << 32, 1<<32 + 1, 1 << 40, 1<<40 + 1, 1 << 62, math.MaxInt, -1, -2, -256, 1 - 1<<30, -1 << 30, -1 << 31, -1 << 32, math.MinInt, math.MinInt + 1}
)

// both answers the two ordinary entries.
func both() []api.Entry { return []api.Entry{plain(), precert()} }

// P15.1: ordinary entries are right; the one of nothing is not.
func TestRight(t *testing.T) {
	for _, e := range both() {
		checkRight(t, e)
	}
	checkRight(t, api.Entry{Body: "x"})
	checkRight(t, api.Entry{Pre: true, Body: "x", Key: strings.Repeat("k", 32), Full: "f"})
	checkWrong(t, api.Entry{})
	checkWrong(t, api.Entry{Pre: true})
}

// P15.1: how many bytes a body has.
func TestBodies(t *testing.T) {
	for _, e := range both() {
		for _, n := range someSizes {
			e.Body = sample.Text(n, 1)
			checkEither(t, e, n >= 1 && n <= 2000)
		}
		for n := 1; n < 300; n++ {
			e.Body = sample.Text(n, 2)
			checkRight(t, e)
		}
	}
}

// P15.1: texts whose lengths need more than the three bytes that tell them.
func TestLongTexts(t *testing.T) {
	for _, n := range []int{1<<24 - 1, 1 << 24, 1<<24 + 1, 1<<24 + 32} {
		long := strings.Repeat("x", n)
		for _, e := range both() {
			e.Body = long
			checkWrong(t, e)
			e = precert()
			e.Full = long
			checkWrong(t, e)
			e = precert()
			e.Key = long
			checkWrong(t, e)
			e.Chain = []string{long}
			checkWrong(t, e)
		}
	}
}

// P15.1: times, and those of other ones that wrap.
func TestTimes(t *testing.T) {
	for _, e := range both() {
		for _, e.Time = range rightTimes() {
			checkRight(t, e)
		}
		for _, e.Time = range wrongTimes {
			checkWrong(t, e)
		}
	}
}

// P15.1: places, and those of other ones that wrap.
func TestIndexes(t *testing.T) {
	for _, e := range both() {
		for _, e.Index = range rightIndexes() {
			checkRight(t, e)
		}
		for _, e.Index = range wrongIndexes {
			checkWrong(t, e)
		}
	}
}

// P15.1: how many texts a chain has, and how many bytes each of them.
func TestChains(t *testing.T) {
	for _, e := range both() {
		for count := range 10 {
			e.Chain = prints(count, 3)
			checkEither(t, e, count <= 4)
			for at := range count {
				for _, n := range someSizes {
					e.Chain = prints(count, 4)
					e.Chain[at] = sample.Text(n, 5)
					checkEither(t, e, count <= 4 && n == 32)
				}
			}
		}
		for _, e.Chain = range [][]string{nil, {}, make([]string, 0, 9), slices.Repeat(prints(1, 6), 4)} {
			checkRight(t, e)
		}
		for _, e.Chain = range [][]string{{""}, make([]string, 4), make([]string, 5), prints(5, 7), prints(1000, 7), make([]string, 1000), {sample.Text(31, 8), sample.Text(33, 9)}, {sample.Text(64, 8), ""}} {
			checkWrong(t, e)
		}
	}
}

// P15.1: the key and itself, of a precertificate.
func TestPreParts(t *testing.T) {
	for _, n := range someSizes {
		e := precert()
		e.Key = sample.Text(n, 10)
		checkEither(t, e, n == 32)
		e = precert()
		e.Full = sample.Text(n, 11)
		checkEither(t, e, n >= 1 && n <= 2000)
		e.Key = ""
		checkWrong(t, e)
	}
}

// P15.1: neither of the two is there, if it is no precertificate.
func TestPlainParts(t *testing.T) {
	for _, n := range someSizes[1:] {
		e := plain()
		e.Key = sample.Text(n, 12)
		checkWrong(t, e)
		e.Full = sample.Text(n, 13)
		checkWrong(t, e)
		e.Key = ""
		checkWrong(t, e)
		e.Full = "\x00"
		checkWrong(t, e)
	}
	for _, pre := range []bool{false, true} {
		for _, e := range both() {
			is := e.Pre
			e.Pre = pre
			checkEither(t, e, is == pre)
		}
	}
}
