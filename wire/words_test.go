package wire_test

import (
	"math"
	"math/big"
	"slices"
	"strconv"
	"strings"
	"testing"

	"engrosser/api"
	"engrosser/sample"
	"engrosser/wire"
)

// writer is what a wire.Writer does.
type writer interface {
	Number(n, size int)
	Raw(s string)
	Opaque(s string, size int)
	Bytes() (string, api.Errno)
}

// reader is what a wire.Reader does.
type reader interface {
	Number(size int) int
	Raw(n int) string
	Opaque(size int) string
	Rest() int
	End() api.Errno
}

// rightSize: may a number be of so many bytes?
func rightSize(size int) bool { return slices.Contains([]int{1, 2, 3, 4, 5, 6, 7}, size) }

// wordsWriter is a writer in the chapter's words.
type wordsWriter struct {
	text  string
	fault api.Errno
}

func (w *wordsWriter) Number(n, size int) {
	b := big.NewInt(int64(n)).Bytes()
	if !rightSize(size) || n < 0 || len(b) > size {
		w.fault = api.ErrArg
		return
	}
	w.Raw(strings.Repeat("\x00", size-len(b)) + string(b))
}

func (w *wordsWriter) Raw(s string) { w.text += s }

func (w *wordsWriter) Opaque(s string, size int) {
	w.Number(len(s), size)
	w.Raw(s)
}

func (w *wordsWriter) Bytes() (string, api.Errno) {
	if w.fault != api.OK {
		return "", w.fault
	}
	return w.text, api.OK
}

// wordsReader is a reader in the chapter's words.
type wordsReader struct {
	text  string
	fault api.Errno
}

func (r *wordsReader) Number(size int) int {
	if r.fault == api.OK && !rightSize(size) {
		r.fault = api.ErrArg
	}
	return int(new(big.Int).SetBytes([]byte(r.Raw(size))).Int64())
}

func (r *wordsReader) Raw(n int) string {
	switch {
	case r.fault != api.OK:
		return ""
	case n < 0:
		r.fault = api.ErrArg
		return ""
	case n > len(r.text):
		r.fault = api.ErrForm
		return ""
	}
	s := r.text[:n]
	r.text = r.text[n:]
	return s
}

func (r *wordsReader) Opaque(size int) string {
	n := r.Number(size)
	return r.Raw(n)
}

func (r *wordsReader) Rest() int {
	if r.fault != api.OK {
		return 0
	}
	return len(r.text)
}

func (r *wordsReader) End() api.Errno {
	if r.fault == api.OK && r.text != "" {
		return api.ErrForm
	}
	return r.fault
}

// write is something that a writer does, and back is how a reader reads what it wrote, as does tells.
type write struct {
	name string
	do   func(w writer)
	back read
	told string
}

// read is something that a reader does; it answers what the reader answered.
type read struct {
	name string
	do   func(r reader) string
}

// short answers s, or its beginning and length, to be told.
func short(s string) string {
	if len(s) > 40 {
		return strconv.Quote(s[:40]) + ".. of " + strconv.Itoa(len(s)) + " bytes"
	}
	return strconv.Quote(s)
}

func readNumber(size int) read {
	return read{"Number(" + strconv.Itoa(size) + ")", func(r reader) string { return strconv.Itoa(r.Number(size)) }}
}

func readRaw(n int) read {
	return read{"Raw(" + strconv.Itoa(n) + ")", func(r reader) string { return r.Raw(n) }}
}

func readOpaque(size int) read {
	return read{"Opaque(" + strconv.Itoa(size) + ")", func(r reader) string { return r.Opaque(size) }}
}

func writeNumber(n, size int) write {
	name := "Number(" + strconv.Itoa(n) + ", " + strconv.Itoa(size) + ")"
	return write{name, func(w writer) { w.Number(n, size) }, readNumber(size), strconv.Itoa(n)}
}

func writeRaw(s string) write {
	return write{"Raw(" + short(s) + ")", func(w writer) { w.Raw(s) }, readRaw(len(s)), s}
}

func writeOpaque(s string, size int) write {
	name := "Opaque(" + short(s) + ", " + strconv.Itoa(size) + ")"
	return write{name, func(w writer) { w.Opaque(s, size) }, readOpaque(size), s}
}

// checkWrites does all writes in order, and holds the writer against the chapter's words ahead of each and behind the last one; it answers the bytes.
func checkWrites(t *testing.T, writes ...write) string {
	t.Helper()
	w, words := wire.NewWriter(), &wordsWriter{}
	done := "NewWriter()"
	for at := 0; ; at++ {
		got, e := w.Bytes()
		want, f := words.Bytes()
		if got != want || e != f {
			t.Errorf("%s: got %s, %d, not %s, %d", done, short(got), e, short(want), f)
		}
		if at == len(writes) {
			return got
		}
		writes[at].do(w)
		writes[at].do(words)
		done += " " + writes[at].name
	}
}

// checkReads does all reads of s in order, and holds each answer, and the reader behind it, against the chapter's words; it answers the error at the end.
func checkReads(t *testing.T, s string, reads ...read) api.Errno {
	t.Helper()
	r, words := wire.NewReader(s), &wordsReader{text: s}
	done := "NewReader(" + short(s) + ")"
	for at := 0; ; at++ {
		if got, want := r.Rest(), words.Rest(); got != want {
			t.Errorf("%s: Rest: got %d, not %d", done, got, want)
		}
		e := r.End()
		if want := words.End(); e != want {
			t.Errorf("%s: End: got %d, not %d", done, e, want)
		}
		if at == len(reads) {
			return e
		}
		done += " " + reads[at].name
		if got, want := reads[at].do(r), reads[at].do(words); got != want {
			t.Errorf("%s: got %s, not %s", done, short(got), short(want))
		}
	}
}

// someNumbers answers numbers around all that take a byte, or a bit, more.
func someNumbers() []int {
	numbers := []int{0, 7, 100, 1000, 0x0102, 0x010203, 0x01020304, 0x0102030405, 0x010203040506, 0x01020304050607, 0x7fedcba987654321, math.MaxInt - 1, math.MaxInt}
	for bit := range 63 {
		numbers = append(numbers, 1<<bit-1, 1<<bit, 1<<bit+1)
	}
	return numbers
}

// negatives and wrongSizes are what no number may be, and what it may not be of.
var (
	negatives  = []int{-1, -2, -255, -256, -257, -1 << 16, -1 << 31, -1 << 32, -1 << 56, -1 << 62, -math.MaxInt, math.MinInt}
	wrongSizes = []int{0, 8, 9, 10, 16, 32, 63, 64, 65, 256, 257, 1 << 31, 1 << 32, 1<<32 + 1, 1 << 61, 1<<61 + 1, 1 << 62, math.MaxInt, -1, -2, -7, -8, -255, 1 - 1<<61, -1 << 61, math.MinInt + 1, math.MinInt}
)

// someWrites answers writes that follow no plain rule, one a piece of some bytes; all of them are right.
func someWrites(n, seed int) []write {
	var writes []write
	for at, c := range []byte(sample.Text(n, seed)) {
		size := 1 + int(c>>2)%7
		s := sample.Text(int(c)+at%40, at)
		switch {
		case c%4 == 0:
			writes = append(writes, writeRaw(s))
		case c%4 == 1 && (size > 1 || len(s) < 256):
			writes = append(writes, writeOpaque(s, size))
		case c%4 == 2:
			writes = append(writes, writeNumber((at*0x123456789abcde+int(c))&(1<<(8*size)-1), size))
		default:
			writes = append(writes, writeNumber(int(c), size))
		}
	}
	return writes
}
