package leaf_test

import (
	"slices"
	"strings"
	"testing"

	"engrosser/api"
	"engrosser/leaf"
	"engrosser/sample"
)

// The places of what piecesOf answers.
const (
	timePiece = iota
	kindPiece
	keyPiece
	bodySizePiece
	bodyPiece
	extSizePiece
	extPiece
	indexSizePiece
	indexPiece
	fullSizePiece
	fullPiece
	chainSizePiece
	chainPiece
)

// piecesOf answers Tile of e in the chapter's words, cut into its parts.
func piecesOf(e api.Entry) []string {
	pieces := []string{bytesOf(e.Time, 8), "\x00\x00", "", bytesOf(len(e.Body), 3), e.Body, "\x00\x08", "\x00", "\x00\x05", bytesOf(e.Index, 5), "", "", bytesOf(32*len(e.Chain), 2), strings.Join(e.Chain, "")}
	if e.Pre {
		pieces[kindPiece], pieces[keyPiece], pieces[fullSizePiece], pieces[fullPiece] = "\x00\x01", e.Key, bytesOf(len(e.Full), 3), e.Full
	}
	return pieces
}

// checkPieces: Tile of e with these pieces in the stead of its own from at on begins with no entry, whatever stands behind it.
func checkPieces(t *testing.T, e api.Entry, at int, others ...string) {
	t.Helper()
	pieces := piecesOf(e)
	copy(pieces[at:], others)
	s := strings.Join(pieces, "")
	for _, rest := range []string{"", "\x00", sample.Text(5000, 1), strings.Repeat("\x00", 5000)} {
		checkNone(t, s+rest)
		if err := checkTakeWords(t, s+rest); err != api.ErrForm {
			t.Errorf("piece %d as %s: it is an entry", at, short(others[0]))
		}
	}
}

// P15.2: what ends too early begins with no entry.
func TestTakeShort(t *testing.T) {
	checkNone(t, "")
	for _, e := range append(both(), api.Entry{Body: "x"}, someEntry(3), someEntry(4)) {
		s := wordsTile(e)
		for n := range len(s) {
			checkNone(t, s[:n])
		}
		checkTake(t, s, e, "", api.OK)
	}
	for n := range 300 {
		checkNone(t, strings.Repeat("\x00", n))
		checkNone(t, strings.Repeat("\xff", n))
		checkNone(t, sample.Text(n, n))
	}
}

// P15.2: times and places that none may be, and kinds that are none.
func TestTakeWrongNumbers(t *testing.T) {
	for _, e := range both() {
		for _, n := range []int{1 << 48, 1<<48 + 5, 1 << 49, 1 << 55, 1 << 56, 1<<56 + 1, 1 << 62, -1, -1 << 63} {
			checkPieces(t, e, timePiece, bytesOf(n, 8))
		}
		for _, n := range []int{2, 3, 4, 0x80, 0xff, 0x100, 0x101, 0x200, 0x8000, 0x8001, 0xff00, 0xff01, 0xffff} {
			checkPieces(t, e, kindPiece, bytesOf(n, 2))
		}
		for _, n := range []int{1 << 30, 1<<30 + 1, 1<<31 - 1, 1 << 31, 1<<32 - 1, 1 << 32, 1<<32 + 7, 1 << 38, 1 << 39, 1<<40 - 1} {
			checkPieces(t, e, indexPiece, bytesOf(n, 5))
		}
	}
}

// P15.2: lengths that are others where the place is told, and another byte ahead of it.
func TestTakeWrongPlace(t *testing.T) {
	for _, e := range both() {
		for _, n := range []int{0, 1, 2, 3, 4, 5, 6, 7, 9, 10, 16, 0x0108, 0x0800, 0x8008, 0xff08, 0xffff} {
			checkPieces(t, e, extSizePiece, bytesOf(n, 2))
		}
		for n := 1; n < 256; n++ {
			checkPieces(t, e, extPiece, bytesOf(n, 1))
		}
		for _, n := range []int{0, 1, 2, 3, 4, 6, 7, 8, 0x0105, 0x0500, 0x8005, 0xff05, 0xffff} {
			checkPieces(t, e, indexSizePiece, bytesOf(n, 2))
		}
		// As many bytes as these say, and what is right but for that.
		checkPieces(t, e, extSizePiece, "\x00\x07", "\x00", "\x00\x04", "\x00\x00\x00\x07")
		checkPieces(t, e, extSizePiece, "\x00\x09", "\x00", "\x00\x06", "\x00\x00\x00\x00\x00\x07")
		checkPieces(t, e, extSizePiece, "\x00\x09", "\x00", "\x00\x05", "\x00\x00\x00\x00\x07\x00")
		checkPieces(t, e, extSizePiece, "\x00\x10", "\x00", "\x00\x05", "\x00\x00\x00\x00\x07\x00\x00\x05\x00\x00\x00\x00\x07")
		checkPieces(t, e, extSizePiece, "\x00\x00", "", "", "")
	}
}

// P15.2: bodies, precertificates and chains of more or fewer bytes than there may be, all of which are there.
func TestTakeWrongTexts(t *testing.T) {
	for _, e := range both() {
		for _, n := range []int{0, 2001, 2002, 4000, 65535, 65536, 65536 + 300, 1 << 20, 1<<24 - 1} {
			checkPieces(t, e, bodySizePiece, bytesOf(n, 3), sample.Text(n, 2))
			if e.Pre {
				checkPieces(t, e, fullSizePiece, bytesOf(n, 3), sample.Text(n, 3))
			}
		}
		for _, n := range []int{1, 2, 16, 31, 33, 48, 63, 65, 95, 96 + 1, 127, 129, 130, 159, 160, 161, 192, 256, 288, 1024, 4096, 65504, 65535} {
			checkPieces(t, e, chainSizePiece, bytesOf(n, 2), sample.Text(n, 4))
		}
	}
	// Without the text that the length tells.
	for _, e := range both() {
		checkPieces(t, e, bodySizePiece, "\xff\xff\xff")
		checkPieces(t, e, chainSizePiece, "\xff\xff")
	}
	checkPieces(t, precert(), fullSizePiece, "\xff\xff\xff")
}

// P15.2: every bit turned, and a byte more, fewer, or another one, in the chapter's words.
func TestTakeNearly(t *testing.T) {
	met := map[api.Errno]int{}
	small := precert()
	small.Body, small.Full, small.Chain = "ab", "c", prints(4, 20)
	for _, e := range append(both(), small, api.Entry{Body: "x"}, api.Entry{Body: "\x00\x00\x00", Chain: prints(1, 30)}) {
		s := wordsTile(e) + "and what is behind" + strings.Repeat("\x00", 50)
		for at := range len(s) {
			for bit := range 8 {
				other := []byte(s)
				other[at] ^= 1 << bit
				met[checkTakeWords(t, string(other))]++
			}
			for _, b := range []string{"", "\x00", "\x01", "\xff", s[at:at+1] + "\x00", "\x00" + s[at:at+1]} {
				met[checkTakeWords(t, s[:at]+b+s[at+1:])]++
			}
		}
	}
	if met[api.OK] < 1000 || met[api.ErrForm] < 1000 || len(met) != 2 {
		t.Errorf("these ends were met: %v", met)
	}
}

// P15.2: texts made of pieces of any entries, in the chapter's words.
func TestTakePieces(t *testing.T) {
	met := map[api.Errno]int{}
	for seed := range 3000 {
		one, two := piecesOf(someEntry(seed)), piecesOf(someEntry(seed+1))
		b := sample.Text(len(one), seed)
		for at := range one {
			if b[at]%8 == 0 {
				one[at] = two[at]
			}
		}
		met[checkTakeWords(t, strings.Join(one, "")+sample.Text(seed%3000, seed))]++
	}
	if met[api.OK] < 300 || met[api.ErrForm] < 300 || len(met) != 2 {
		t.Errorf("these ends were met: %v", met)
	}
}

// greatest answers the entry that needs the most bytes.
func greatest() api.Entry {
	return api.Entry{Pre: true, Body: sample.Text(2000, 1), Key: sample.Text(32, 2), Full: sample.Text(2000, 3), Chain: prints(4, 4), Time: api.MaxTime, Index: api.MaxSize - 1}
}

// P15.2: what stands behind is all of it, however long it and the entry are.
func TestTakeRests(t *testing.T) {
	for _, e := range append(both(), greatest(), api.Entry{Body: "x"}) {
		s := wordsTile(e)
		for _, n := range []int{0, 1, 31, 32, 255, 256, 4000, 4187, 4188, 4189, 65535, 65536, 1 << 20, 1 << 24} {
			rest := sample.Text(n, 5)
			checkTake(t, s+rest, e, rest, api.OK)
		}
	}
	if n := len(wordsTile(greatest())); n != 4188 {
		t.Errorf("the greatest entry has %d bytes", n)
	}
}

// checkBack: entries that are written one behind the other are read as they were.
func checkBack(t *testing.T, all []api.Entry) {
	t.Helper()
	s := ""
	for _, e := range all {
		one, err := leaf.Tile(e)
		if err != api.OK {
			t.Errorf("Tile of %s: got %d", shown(e), err)
		}
		s += one
	}
	for at, e := range all {
		got, rest, err := leaf.TakeTile(s)
		if !same(got, e) || err != api.OK || !strings.HasSuffix(s, rest) {
			t.Fatalf("entry %d: got %s, %d, not %s", at, shown(got), err, shown(e))
		}
		if again, _ := leaf.Tile(got); again+rest != s {
			t.Errorf("entry %d: written again it is %s", at, short(again))
		}
		s = rest
	}
	if s != "" {
		t.Errorf("%s is left", short(s))
	}
	checkNone(t, s)
}

// P15.3: a tile of entries, small ones, great ones, and any.
func TestBack(t *testing.T) {
	for seed := range 20 {
		var all []api.Entry
		for at := range 1 + seed*seed%256 {
			all = append(all, someEntry(1000*seed+at))
		}
		checkBack(t, all)
	}
	checkBack(t, nil)
	checkBack(t, slices.Repeat([]api.Entry{greatest()}, 256))
	checkBack(t, slices.Repeat([]api.Entry{{Body: "\x00"}}, 256))
	checkBack(t, slices.Repeat(append(both(), greatest()), 20))
}

// P15.3: entries whose bytes are all alike, or look like other parts.
func TestBackTexts(t *testing.T) {
	zeros, ones := strings.Repeat("\x00", 2000), strings.Repeat("\xff", 2000)
	other := wordsTile(plain())
	for _, s := range []string{zeros, ones, other + zeros, zeros[:300] + other + zeros, "\x00\x08\x00\x00\x05\x00\x00\x00\x00\x00\x00\x00" + zeros} {
		for _, n := range []int{1, 2, 32, 255, 256, 1999, 2000} {
			checkBack(t, []api.Entry{
				{Body: s[:n]}, {Body: s[:n], Chain: []string{s[:32], ones[:32]}}, {Pre: true, Body: s[:n], Key: s[:32], Full: s[:n]},
				{Pre: true, Body: s[:1], Key: s[:32], Full: s[:n], Chain: []string{s[:32], s[:32], zeros[:32], s[:32]}},
			})
		}
	}
}
