package wire_test

import (
	"encoding/binary"
	"math"
	"strings"
	"testing"

	"engrosser/api"
	"engrosser/sample"
	"engrosser/wire"
)

// checkBytes holds what w tells against what it is to tell.
func checkBytes(t *testing.T, name string, w *wire.Writer, want string, e api.Errno) {
	t.Helper()
	if got, f := w.Bytes(); got != want || f != e {
		t.Errorf("%s: got %s, %d, not %s, %d", name, short(got), f, short(want), e)
	}
}

// checkRefused: behind the write, which is wrong, there is the error, and nothing that is written then changes that.
func checkRefused(t *testing.T, wrong write) {
	t.Helper()
	for _, ahead := range []string{"", "x"} {
		w := wire.NewWriter()
		w.Raw(ahead)
		wrong.do(w)
		checkBytes(t, wrong.name, w, "", api.ErrArg)
		w.Raw("y")
		checkBytes(t, wrong.name+" Raw", w, "", api.ErrArg)
		w.Number(1, 1)
		checkBytes(t, wrong.name+" Number", w, "", api.ErrArg)
		w.Opaque("y", 1)
		checkBytes(t, wrong.name+" Opaque", w, "", api.ErrArg)
		wrong.do(w)
		checkBytes(t, wrong.name+" twice", w, "", api.ErrArg)
	}
}

// P13.1: the chapter's example, and others that are known.
func TestWritesKnown(t *testing.T) {
	for _, c := range []struct {
		write write
		want  string
	}{
		{writeOpaque("ab", 2), "\x00\x02ab"},
		{writeOpaque("", 1), "\x00"}, {writeOpaque("", 7), "\x00\x00\x00\x00\x00\x00\x00"}, {writeOpaque("\x00", 3), "\x00\x00\x01\x00"},
		{writeRaw(""), ""}, {writeRaw("ab"), "ab"}, {writeRaw("\x00\xff\n"), "\x00\xff\n"},
		{writeNumber(0, 1), "\x00"}, {writeNumber(255, 1), "\xff"}, {writeNumber(255, 2), "\x00\xff"}, {writeNumber(256, 2), "\x01\x00"}, {writeNumber(65535, 2), "\xff\xff"},
		{writeNumber(0x01020304050607, 7), "\x01\x02\x03\x04\x05\x06\x07"}, {writeNumber(1<<56-1, 7), "\xff\xff\xff\xff\xff\xff\xff"}, {writeNumber(1, 7), "\x00\x00\x00\x00\x00\x00\x01"},
	} {
		w := wire.NewWriter()
		c.write.do(w)
		checkBytes(t, c.write.name, w, c.want, api.OK)
	}
}

// P13.1: who begins has no bytes and no error.
func TestWriterAtFirst(t *testing.T) {
	w := wire.NewWriter()
	checkBytes(t, "NewWriter()", w, "", api.OK)
	w.Raw("")
	checkBytes(t, "Raw of nothing", w, "", api.OK)
}

// P13.1: numbers around all edges, in each size, as Go's own library writes them, and refused where they need more bytes.
func TestWriteNumbers(t *testing.T) {
	for _, n := range someNumbers() {
		all := string(binary.BigEndian.AppendUint64(nil, uint64(n)))
		for size := 1; size <= 7; size++ {
			if strings.Trim(all[:8-size], "\x00") != "" {
				checkRefused(t, writeNumber(n, size))
				continue
			}
			w := wire.NewWriter()
			w.Raw("x")
			w.Number(n, size)
			checkBytes(t, writeNumber(n, size).name, w, "x"+all[8-size:], api.OK)
		}
	}
}

// P13.1, P6: a number below 0, and a size that is not 1 to 7, are refused.
func TestWriteWrong(t *testing.T) {
	for size := 1; size <= 7; size++ {
		for _, n := range negatives {
			checkRefused(t, writeNumber(n, size))
		}
	}
	for _, size := range wrongSizes {
		for _, n := range []int{0, 1, 255, 256, 1 << 56, math.MaxInt, -1, math.MinInt} {
			checkRefused(t, writeNumber(n, size))
		}
		for _, s := range []string{"", "a", sample.Text(300, 1)} {
			checkRefused(t, writeOpaque(s, size))
		}
	}
}

// P13.1: texts that have just as many bytes as a length can tell, and one more.
func TestWriteOpaqueEdges(t *testing.T) {
	for size := 1; size <= 3; size++ {
		most := 1<<(8*size) - 1
		s := strings.Repeat("ab\x00", most/3+1)
		w := wire.NewWriter()
		w.Opaque(s[:most], size)
		checkBytes(t, "the most", w, strings.Repeat("\xff", size)+s[:most], api.OK)
		checkRefused(t, writeOpaque(s[:most+1], size))
		if size == 1 {
			checkRefused(t, writeOpaque(s[:512-256], size))
			checkRefused(t, writeOpaque(sample.Text(512, 1), size))
			checkRefused(t, writeOpaque(sample.Text(65536, 1), size))
		}
		w = wire.NewWriter()
		w.Opaque(s[:most+1], size+1)
		checkBytes(t, "one more, in one byte more", w, "\x01"+strings.Repeat("\x00", size)+s[:most+1], api.OK)
	}
}

// P13.1: texts of all bytes, and of some lengths, as they are and with their length.
func TestWriteTexts(t *testing.T) {
	for n := range 300 {
		s := sample.Text(n, n)
		checkWrites(t, writeRaw(s), writeRaw(string([]byte{byte(n)})), writeOpaque(s, 2), writeOpaque(s, 7), writeOpaque(s, 1))
	}
}

// P13.1: many writes, one behind the other, in the chapter's words; and each wrong one among them.
func TestWriteMany(t *testing.T) {
	for seed := range 40 {
		checkWrites(t, someWrites(30, seed)...)
	}
	for _, wrong := range []write{writeNumber(256, 1), writeNumber(-1, 7), writeNumber(0, 0), writeNumber(0, 8), writeOpaque(sample.Text(256, 2), 1), writeOpaque("", 0), writeOpaque("", 8), writeNumber(1<<56, 7)} {
		for at := range 12 {
			writes := someWrites(12, at)
			writes[at] = wrong
			if got := checkWrites(t, writes...); got != "" {
				t.Errorf("%s, as write %d: got %s", wrong.name, at, short(got))
			}
		}
	}
}

// P13.1: what was told stays as it is, and who was asked goes on.
func TestBytesAgain(t *testing.T) {
	w := wire.NewWriter()
	var told []string
	want := ""
	for n := range 50 {
		s, e := w.Bytes()
		if again, f := w.Bytes(); s != again || s != want || e != api.OK || f != api.OK {
			t.Fatalf("got %s, %d, and %s, %d, not %s", short(s), e, short(again), f, short(want))
		}
		told = append(told, s)
		w.Number(n, 1)
		want += string([]byte{byte(n)})
	}
	for n, s := range told {
		if s != want[:n] {
			t.Errorf("what was told behind %d writes is %s now", n, short(s))
		}
	}
}
