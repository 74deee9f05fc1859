package wire_test

import (
	"encoding/binary"
	"math"
	"strings"
	"testing"

	"engrosser/api"
	"engrosser/sample"
	"engrosser/wire"
)

// noAnswer is what a read answers that answers nothing.
func noAnswer(r read) string {
	if strings.HasPrefix(r.name, "Number") {
		return "0"
	}
	return ""
}

// checkFault: behind the reads of s, of which the last one is wrong, there is the error, and nothing that is read then answers anything, or changes it.
func checkFault(t *testing.T, s string, e api.Errno, reads ...read) {
	t.Helper()
	last := reads[len(reads)-1]
	for _, next := range []read{readNumber(1), readNumber(7), readRaw(0), readRaw(1), readOpaque(1), readNumber(0), readNumber(8), readRaw(-1), readRaw(math.MaxInt), readOpaque(0), last} {
		r := wire.NewReader(s)
		for _, one := range reads[:len(reads)-1] {
			one.do(r)
		}
		for _, one := range []read{last, next, next} {
			if got := one.do(r); got != noAnswer(one) {
				t.Errorf("%s: %s, and %s: %s answered %s", short(s), last.name, next.name, one.name, short(got))
			}
			if rest, f := r.Rest(), r.End(); rest != 0 || f != e {
				t.Errorf("%s: %s, and %s: behind %s got %d, %d, not 0, %d", short(s), last.name, next.name, one.name, rest, f, e)
			}
		}
	}
}

// P13.2: reads that are known.
func TestReadsKnown(t *testing.T) {
	for _, c := range []struct {
		s    string
		read read
		want string
		rest int
	}{
		{"\x00\x02ab", readOpaque(2), "ab", 0}, {"\x00\x02abc", readOpaque(2), "ab", 1}, {"\x00", readOpaque(1), "", 0}, {"\x00\x00\x00\x01\x00", readOpaque(4), "\x00", 0},
		{"ab", readRaw(2), "ab", 0}, {"ab", readRaw(1), "a", 1}, {"ab", readRaw(0), "", 2}, {"", readRaw(0), "", 0},
		{"\x00", readNumber(1), "0", 0}, {"\xff", readNumber(1), "255", 0}, {"\x01\x00", readNumber(2), "256", 0}, {"\x01\x02\x03", readNumber(2), "258", 1},
		{"\xff\xff\xff\xff\xff\xff\xff", readNumber(7), "72057594037927935", 0}, {"\x01\x02\x03\x04\x05\x06\x07\x08", readNumber(7), "283686952306183", 1},
	} {
		r := wire.NewReader(c.s)
		if got := c.read.do(r); got != c.want {
			t.Errorf("%s: %s: got %s, not %s", short(c.s), c.read.name, short(got), short(c.want))
		}
		e := api.OK
		if c.rest > 0 {
			e = api.ErrForm
		}
		if r.Rest() != c.rest || r.End() != e {
			t.Errorf("%s: %s: got %d, %d, not %d, %d", short(c.s), c.read.name, r.Rest(), r.End(), c.rest, e)
		}
	}
}

// P13.2: who begins has all bytes, and no error.
func TestReaderAtFirst(t *testing.T) {
	for n := range 5 {
		s := sample.Text(n, 1)
		e := checkReads(t, s)
		if want := n > 0; (e == api.ErrForm) != want || (e == api.OK) == want {
			t.Errorf("%d bytes: End: got %d", n, e)
		}
	}
}

// P13.2: numbers of each size, as Go's own library reads them; with fewer bytes, refused.
func TestReadNumbers(t *testing.T) {
	for _, n := range someNumbers() {
		all := string(binary.BigEndian.AppendUint64(nil, uint64(n)))
		for size := 1; size <= 7; size++ {
			b := all[8-size:]
			for _, behind := range []string{"", "\x00", "\xff", "abc"} {
				r := wire.NewReader(b + behind)
				want := int(binary.BigEndian.Uint64([]byte(strings.Repeat("\x00", 8-size) + b)))
				if got := r.Number(size); got != want || r.Rest() != len(behind) {
					t.Errorf("%s: Number(%d): got %d, with %d behind, not %d", short(b+behind), size, got, r.Rest(), want)
				}
			}
			for n := range size {
				checkFault(t, b[:n], api.ErrForm, readNumber(size))
			}
		}
	}
}

// P13.2, P6: a size that is not 1 to 7 is told as such, also where there are fewer bytes.
func TestReadWrongSize(t *testing.T) {
	for _, size := range wrongSizes {
		for _, s := range []string{"", "\x00", "\x05a", strings.Repeat("\x00", 20), sample.Text(300, 3)} {
			checkFault(t, s, api.ErrArg, readNumber(size))
			checkFault(t, s, api.ErrArg, readOpaque(size))
			checkFault(t, "abc"+s, api.ErrArg, readRaw(3), readNumber(size))
		}
	}
}

// P13.2, P6: Raw of all that is there, and of less; of more, and of fewer bytes than none.
func TestReadRaw(t *testing.T) {
	for size := range 40 {
		s := sample.Text(size, size)
		for n := range size + 1 {
			checkReads(t, s, readRaw(n), readRaw(size-n))
			r := wire.NewReader(s)
			if got := r.Raw(n); got != s[:n] || r.Rest() != size-n {
				t.Errorf("%s: Raw(%d): got %s, with %d behind", short(s), n, short(got), r.Rest())
			}
		}
		for _, n := range []int{1, 2, 255, 256, 1 << 31, 1 << 32, 1 << 62, math.MaxInt - size} {
			checkFault(t, s, api.ErrForm, readRaw(size+n))
			checkFault(t, s, api.ErrForm, readRaw(size/2), readRaw(size-size/2+n))
		}
		for _, n := range negatives {
			checkFault(t, s, api.ErrArg, readRaw(n))
		}
	}
}

// P13.2: a length that tells more bytes than there are, or of which some are not there.
func TestReadOpaqueEdges(t *testing.T) {
	for size := 1; size <= 7; size++ {
		for n := range 6 {
			s := sample.Text(n, 4)
			b := strings.Repeat("\x00", size-1) + string([]byte{byte(n)}) + s
			if e := checkReads(t, b, readOpaque(size)); e != api.OK {
				t.Errorf("%s: Opaque(%d): got %d", short(b), size, e)
			}
			checkReads(t, b+"more", readOpaque(size), readRaw(4))
			for some := range len(b) {
				checkFault(t, b[:some], api.ErrForm, readOpaque(size))
			}
			checkFault(t, strings.Repeat("\xff", size)+s, api.ErrForm, readOpaque(size))
			checkFault(t, "\x80"+strings.Repeat("\x00", size-1)+s, api.ErrForm, readOpaque(size))
		}
		if size <= 3 {
			most := 1<<(8*size) - 1
			b := strings.Repeat("\xff", size) + sample.Text(most, 5)
			if e := checkReads(t, b, readOpaque(size)); e != api.OK {
				t.Errorf("%d bytes: got %d", most, e)
			}
			checkFault(t, b[:len(b)-1], api.ErrForm, readOpaque(size))
		}
	}
}

// P13.2: reads of any bytes, in the chapter's words, with errors of each kind.
func TestReadMany(t *testing.T) {
	met := map[api.Errno]int{}
	for seed := range 1000 {
		var reads []read
		for _, c := range []byte(sample.Text(12, seed)) {
			switch kind, n := c%16, int(c/16); {
			case kind < 6:
				reads = append(reads, readNumber(1+n%7))
			case kind < 11:
				reads = append(reads, readRaw(n%5))
			case kind < 15:
				reads = append(reads, readOpaque(1+n%8/7))
			default:
				reads = append(reads, readNumber(n), readRaw(n-8))
			}
		}
		met[checkReads(t, strings.Repeat("\x00\x03a\x01\x07", 1+seed%4)+sample.Text(seed%60, seed), reads...)]++
		for _, one := range reads {
			met[checkReads(t, "", one)]++
		}
	}
	if met[api.OK] < 20 || met[api.ErrArg] < 20 || met[api.ErrForm] < 20 || len(met) != 3 {
		t.Errorf("these ends were met: %v", met)
	}
}

// P13.2, P2: End tells that there are bytes, and reads on all the same.
func TestEndGoesOn(t *testing.T) {
	r := wire.NewReader("\x02abcd")
	for range 3 {
		if e := r.End(); e != api.ErrForm || r.Rest() != 5 {
			t.Errorf("End: got %d, with %d behind", e, r.Rest())
		}
	}
	if got := r.Opaque(1); got != "ab" || r.End() != api.ErrForm {
		t.Errorf("Opaque: got %s", short(got))
	}
	if got := r.Raw(2); got != "cd" || r.End() != api.OK || r.Rest() != 0 {
		t.Errorf("Raw: got %s", short(got))
	}
	if got := r.Raw(0); got != "" || r.End() != api.OK {
		t.Errorf("Raw of nothing: got %s, %d", short(got), r.End())
	}
	if n := r.Number(1); n != 0 || r.End() != api.ErrForm {
		t.Errorf("Number: got %d, %d", n, r.End())
	}
}
