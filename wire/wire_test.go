package wire_test

import (
	"slices"
	"strings"
	"sync"
	"testing"
	"unsafe"

	"engrosser/api"
	"engrosser/sample"
	"engrosser/wire"
)

// written answers what was written, as a text that is read by back.
func written(t *testing.T, writes []write) string {
	t.Helper()
	w := wire.NewWriter()
	for _, one := range writes {
		one.do(w)
	}
	s, e := w.Bytes()
	if e != api.OK {
		t.Errorf("%d writes: got %d", len(writes), e)
	}
	return s
}

// checkBack: s is read as it was written, and there is nothing behind.
func checkBack(t *testing.T, s string, writes []write) {
	t.Helper()
	r := wire.NewReader(s)
	for at, one := range writes {
		ahead := r.Rest()
		if got := one.back.do(r); got != one.told {
			t.Errorf("%s, as write %d: got %s", one.name, at, short(got))
		}
		if size := len(written(t, []write{one})); r.Rest() != ahead-size {
			t.Errorf("%s, as write %d: of %d bytes, %d are left", one.name, at, ahead, r.Rest())
		}
	}
	if e := r.End(); e != api.OK || r.Rest() != 0 {
		t.Errorf("%d writes: got %d, with %d behind", len(writes), e, r.Rest())
	}
}

// P13.3: numbers around all edges, and texts of some lengths, in each size that they fit in.
func TestBackAlone(t *testing.T) {
	for size := 1; size <= 7; size++ {
		for _, n := range someNumbers() {
			if n < 1<<(8*size) {
				one := []write{writeNumber(n, size)}
				checkBack(t, written(t, one), one)
			}
		}
		for _, n := range []int{0, 1, 2, 254, 255, 256, 257, 65535, 65536, 1<<24 - 1, 1 << 24} {
			if n < 1<<(8*size) && (n < 1<<23 || size < 5) {
				one := []write{writeOpaque(strings.Repeat("a", n), size)}
				checkBack(t, written(t, one), one)
			}
		}
	}
}

// P13.3: many writes, one behind the other.
func TestBackMany(t *testing.T) {
	checkBack(t, "", nil)
	for seed := range 100 {
		writes := someWrites(seed, seed)
		checkBack(t, written(t, writes), writes)
	}
	writes := someWrites(5000, 7)
	checkBack(t, written(t, writes), writes)
}

// P13.3: what was read piece by piece, and written so, is the text again.
func TestBackTexts(t *testing.T) {
	for size := range 200 {
		s := sample.Text(size, size)
		r, w := wire.NewReader(s), wire.NewWriter()
		for at := 0; r.Rest() > 0; at++ {
			n := min(1+at%7, r.Rest())
			w.Number(r.Number(n), n)
			w.Raw(r.Raw(min(at%3, r.Rest())))
		}
		if e := r.End(); e != api.OK {
			t.Errorf("%d bytes: End: got %d", size, e)
		}
		if got, e := w.Bytes(); got != s || e != api.OK {
			t.Errorf("%d bytes: got %s, %d, not %s", size, short(got), e, short(s))
		}
	}
}

// P3: a writer writes nothing into what it is handed, and keeps none of it.
func TestWriterKeepsNothing(t *testing.T) {
	memory := []byte("abcdefgh")
	w := wire.NewWriter()
	w.Raw(unsafe.String(&memory[0], 3))
	w.Opaque(unsafe.String(&memory[3], 3), 1)
	w.Number(0x5a, 1)
	if string(memory) != "abcdefgh" {
		t.Errorf("the memory is %q now", memory)
	}
	clear(memory)
	checkBytes(t, "Raw, Opaque, Number", w, "abc\x03defZ", api.OK)
}

// P3: a reader writes nothing into what it is handed, and keeps none of it; what it answers is memory of its own.
func TestReaderKeepsNothing(t *testing.T) {
	memory := []byte("abc\x03defghi")
	r := wire.NewReader(unsafe.String(&memory[0], 9))
	first := r.Raw(3)
	if string(memory) != "abc\x03defghi" {
		t.Errorf("the memory is %q now", memory)
	}
	clear(memory)
	if second, third := r.Opaque(1), r.Raw(2); first != "abc" || second != "def" || third != "gh" || r.End() != api.OK {
		t.Errorf("got %q, %q, %q, %d", first, second, third, r.End())
	}
}

// P3: no two answers share memory, nor one with what was handed in.
func TestAnswersAlone(t *testing.T) {
	w := wire.NewWriter()
	w.Raw("abc\x03defgh")
	var answers []string
	for range 3 {
		s, _ := w.Bytes()
		answers = append(answers, s)
	}
	for range 2 {
		r := wire.NewReader(answers[0])
		answers = append(answers, r.Raw(3), r.Opaque(1), r.Raw(2))
	}
	slices.SortFunc(answers, func(a, b string) int {
		return int(uintptr(unsafe.Pointer(unsafe.StringData(a)))) - int(uintptr(unsafe.Pointer(unsafe.StringData(b))))
	})
	for at, s := range answers[1:] {
		before := answers[at]
		end := uintptr(unsafe.Pointer(unsafe.StringData(before))) + uintptr(len(before))
		if uintptr(unsafe.Pointer(unsafe.StringData(s))) < end {
			t.Errorf("%q and %q share memory", before, s)
		}
	}
}

// P4: two writers, and two readers, that are asked in turn know nothing of each other.
func TestInTurn(t *testing.T) {
	one, two := someWrites(50, 1), someWrites(50, 2)
	v, w := wire.NewWriter(), wire.NewWriter()
	for at := range one {
		one[at].do(v)
		two[at].do(w)
	}
	first, second := written(t, one), written(t, two)
	checkBytes(t, "the first", v, first, api.OK)
	checkBytes(t, "the second", w, second, api.OK)
	v.Number(-1, 1)
	checkBytes(t, "the first, with an error", v, "", api.ErrArg)
	checkBytes(t, "the second, beside it", w, second, api.OK)
	q, r := wire.NewReader(first), wire.NewReader(second)
	for at := range one {
		if got, other := one[at].back.do(q), two[at].back.do(r); got != one[at].told || other != two[at].told {
			t.Errorf("%s and %s: got %s and %s", one[at].name, two[at].name, short(got), short(other))
		}
	}
	if q.Raw(1) != "" || q.End() != api.ErrForm || r.End() != api.OK {
		t.Errorf("got %d and %d", q.End(), r.End())
	}
}

// P4: and so where many are asked at one time.
func TestAtOneTime(t *testing.T) {
	want := written(t, someWrites(200, 3))
	var group sync.WaitGroup
	for range 8 {
		group.Go(func() {
			for range 20 {
				writes := someWrites(200, 3)
				s := written(t, writes)
				if s != want {
					t.Errorf("got %s", short(s))
				}
				checkBack(t, s, writes)
			}
		})
	}
	group.Wait()
}
