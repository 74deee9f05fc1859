package inflate

import (
	"bytes"
	"compress/flate"
	"encoding/hex"
	"math"
	"slices"
	"strings"
	"sync"
	"testing"
	"unsafe"

	"engrosser/api"
	"engrosser/byhand"
	"engrosser/sample"
)

// checkOpen holds what Open answers against what is told.
func checkOpen(t *testing.T, s string, most int, out string, used int, e api.Errno) {
	t.Helper()
	if got, gotUsed, gotE := Open(s, most); got != out || gotUsed != used || gotE != e {
		t.Errorf("Open(%s, %d): got %s, %d, %d, not %s, %d, %d", short(s), most, short(got), gotUsed, gotE, short(out), used, e)
	}
}

// checkRight: s, all of it, is opened as out, if as many bytes may be said, or more; not if fewer may be, nor if s ends ahead.
func checkRight(t *testing.T, s, out string) {
	t.Helper()
	checkOpen(t, s, len(out), out, len(s), api.OK)
	checkOpen(t, s, api.MaxOut, out, len(s), api.OK)
	checkOpen(t, s+"more", len(out), out, len(s), api.OK)
	if out != "" {
		checkOpen(t, s, len(out)-1, "", 0, api.ErrLong)
		checkOpen(t, s, 0, "", 0, api.ErrLong)
	}
	checkOpen(t, s[:len(s)-1], api.MaxOut, "", 0, api.ErrForm)
}

// checkWrong: such bits, by which so many bytes are said, are refused ahead of any more, whatever stands behind.
func checkWrong(t *testing.T, said int, bits ...string) {
	t.Helper()
	all := strings.Join(bits, "")
	for _, fill := range []string{"0", "1", "01", "0011", "011"} {
		for _, n := range []int{0, 8, 200, 3000} {
			s := byhand.Packed(all+strings.Repeat(fill, n), fill[0])
			checkOpen(t, s, api.MaxOut, "", 0, api.ErrForm)
			checkOpen(t, s, said, "", 0, api.ErrForm)
			if said > 0 {
				checkOpen(t, s, said-1, "", 0, api.ErrLong)
			}
		}
	}
}

// short answers s in hex, or its beginning.
func short(s string) string {
	if len(s) > 60 {
		return hex.EncodeToString([]byte(s[:60])) + ".."
	}
	return hex.EncodeToString([]byte(s))
}

// someTexts answers texts of many kinds.
func someTexts() []string {
	var few, steep strings.Builder
	for _, c := range []byte(sample.Text(40000, 11)) {
		few.WriteByte("engrosser "[c%10])
		steep.WriteByte(byte(math.Sqrt(float64(c)*float64(c%16)) / 4))
	}
	return []string{
		"", "a", "ab", "aaaa", "abcabcabcabc", "a certificate, a precertificate, a certificate",
		strings.Repeat("\x00", 1000), strings.Repeat("ab", 300), strings.Repeat("\xff\x00\x80", 90), strings.Repeat("0123456789", 7000),
		sample.Text(10, 1), sample.Text(300, 2), sample.Text(5000, 3), sample.Text(32768, 6), sample.Text(32769, 7), sample.Text(70000, 8),
		strings.Repeat(sample.Text(259, 4), 9), strings.Repeat(sample.Text(1000, 5), 3) + "end", sample.Text(32768, 9) + sample.Text(32768, 9),
		sample.Text(32760, 10) + strings.Repeat("z", 40000) + sample.Text(32760, 10),
		few.String(), steep.String(),
	}
}

// P10.1: each length, in the chapter's words, and those that RFC 1951 tells.
func TestLength(t *testing.T) {
	table := wordsLengths
	if len(table) != 29 {
		t.Fatal(len(table))
	}
	known := map[int][2]int{257: {3, 0}, 258: {4, 0}, 264: {10, 0}, 265: {11, 1}, 266: {13, 1}, 269: {19, 2}, 273: {35, 3}, 276: {59, 3}, 277: {67, 4}, 280: {115, 4}, 281: {131, 5}, 284: {227, 5}, 285: {258, 0}}
	for i, want := range table {
		base, extra, ok := Length(257 + i)
		if base != want[0] || extra != want[1] || !ok {
			t.Errorf("Length(%d): got %d, %d, %v, not %v", 257+i, base, extra, ok, want)
		}
		if want, told := known[257+i]; told && (base != want[0] || extra != want[1]) {
			t.Errorf("Length(%d): got %d, %d, not %v", 257+i, base, extra, want)
		}
	}
}

// P10.1: each distance, likewise.
func TestDistance(t *testing.T) {
	table := wordsDistances
	if len(table) != 30 {
		t.Fatal(len(table))
	}
	known := map[int][2]int{0: {1, 0}, 1: {2, 0}, 3: {4, 0}, 4: {5, 1}, 5: {7, 1}, 6: {9, 2}, 7: {13, 2}, 10: {33, 4}, 17: {385, 7}, 27: {12289, 12}, 28: {16385, 13}, 29: {24577, 13}}
	for i, want := range table {
		base, extra, ok := Distance(i)
		if base != want[0] || extra != want[1] || !ok {
			t.Errorf("Distance(%d): got %d, %d, %v, not %v", i, base, extra, ok, want)
		}
		if want, told := known[i]; told && (base != want[0] || extra != want[1]) {
			t.Errorf("Distance(%d): got %d, %d, not %v", i, base, extra, want)
		}
	}
}

// P10.1: symbols that say none.
func TestNoLengthNoDistance(t *testing.T) {
	far := []int{-1, -2, -29, -30, -257, -285, math.MinInt, math.MinInt + 1, math.MinInt + 257, math.MaxInt, math.MaxInt - 1, 1 << 32, 1<<32 + 3, 1<<32 + 257, -1<<32 + 3, 1 << 62}
	for n := 30; n < 257; n++ {
		far = append(far, n)
	}
	for n := 286; n < 600; n++ {
		far = append(far, n)
	}
	for _, n := range append(slices.Clone(far), 0, 1, 3, 15, 28, 29) {
		if base, extra, ok := Length(n); base != 0 || extra != 0 || ok {
			t.Errorf("Length(%d): got %d, %d, %v", n, base, extra, ok)
		}
	}
	for _, n := range append(slices.Clone(far), 257, 258, 284, 285) {
		if base, extra, ok := Distance(n); base != 0 || extra != 0 || ok {
			t.Errorf("Distance(%d): got %d, %d, %v", n, base, extra, ok)
		}
	}
}

// P10.2: a most that may not be is told ahead of all that is wrong in s.
func TestMost(t *testing.T) {
	for _, s := range []string{"", "x", "\x07", "\x03\x00", "\x4b\x04\x00", "\x01\x03\x00\xfc\xffabc"} {
		for _, most := range []int{-1, -2, -1 << 20, math.MinInt, math.MinInt + 1, -1 << 32, 1<<20 + 1, 1<<20 + 2, 1 << 21, 1 << 32, 1<<32 + 5, math.MaxInt} {
			checkOpen(t, s, most, "", 0, api.ErrArg)
		}
	}
	checkOpen(t, "\x03\x00", 0, "", 2, api.OK)
	checkOpen(t, "\x03\x00", 1<<20, "", 2, api.OK)
	checkOpen(t, "\x4b\x04\x00", 1<<20, "a", 3, api.OK)
}

// P10.2: packed texts that are known: the chapter's, and what another program packs, in each kind of block.
func TestOpenKnown(t *testing.T) {
	for _, c := range []struct{ packed, want string }{
		{"0300", ""}, {"010000ffff", ""}, {"000000ffff0300", ""}, {"020c00", ""},
		{"4b0400", "a"}, {"010100feff00", "\x00"}, {"f90100feff7a", "z"}, {"4a04000000ffff0300", "a"},
		{"010300fcff616263", "abc"}, {"4b4c4a0600", "abc"}, {"4b4c4c4c0400", "aaaa"}, {"4b4c840100", "aaaaaaaaaa"}, {"4b4c4a4e444200", "abcabcabcabcabc"},
		{"cb48cdc9c957c8402701", "hello hello hello hello"},
		{"4bcd4b2fca2f2e4e2d524885b28a154a32521510a2254599a9c53a0a8979295089d4c412904451517e11506d7ebe355ceba82154360400", strings.Repeat("engrosser engrosses the grosser entries, and the greater errors too; ", 6)},
		{"05c101010000008090adfa3f22442552240855212a912241a80a518914094255884aa44810aa62", strings.Repeat("abaabbbabaababbaababaaaabaaabbbbbaa", 4)},
		{"05c1810d80300c03b05772c09eaad668ab100591ec7f6c6f42e7d6806a75f87cd4c01bf3aa5e884ecc27297887514693296f42e7d6806a75f87cd4c01bf3aa5e884ecc27297887514693296f42e7d6806a75f87cd4c01bf3aa5e884ecc27297887514693296f42e7d6806a75f87cd4c01bf3aa5e884ecc27297887514693a91f", strings.Repeat("the sums, signatures, packing and codes that it needs", 4)},
	} {
		s, err := hex.DecodeString(c.packed)
		if err != nil {
			t.Fatal(err)
		}
		checkRight(t, string(s), c.want)
	}
}

// libraryPacked answers s as Go's own library packs it, in pieces.
func libraryPacked(t *testing.T, s string, level, piece int) string {
	t.Helper()
	var b bytes.Buffer
	w, err := flate.NewWriter(&b, level)
	if err != nil {
		t.Fatal(err)
	}
	for left := s; left != ""; left = left[min(piece, len(left)):] {
		w.Write([]byte(left[:min(piece, len(left))]))
		w.Flush()
	}
	w.Close()
	return b.String()
}

// P10.2: what Go's own library packs, at each level.
func TestOpenLibrary(t *testing.T) {
	t.Parallel()
	for _, s := range someTexts() {
		for level := flate.HuffmanOnly; level <= flate.BestCompression; level++ {
			checkRight(t, libraryPacked(t, s, level, len(s)), s)
			checkRight(t, libraryPacked(t, s, level, len(s)/3+1), s)
		}
	}
}

// P10.2: stored blocks of all sizes, wherever they begin; the bits that are passed over may be any.
func TestStored(t *testing.T) {
	for _, fill := range []string{"0", "1"} {
		for _, n := range []int{0, 1, 2, 3, 255, 256, 257, 1000, 32767, 32768, 65534, 65535} {
			s := sample.Text(n, 1)
			checkRight(t, byhand.Text(byhand.Stored("", lastStored, fill, s)), s)
			checkRight(t, byhand.Text(byhand.Stored(byhand.Stored("", storedBlock, fill, s), lastStored, fill, "more")), s+"more")
		}
		for ahead := range 16 {
			// Each byte from 144 on has nine bits, and so moves the next block's beginning by one.
			first := strings.Repeat("\xc8", ahead)
			bits := fixedBlock + fixed.Bytes(first) + fixed.End()
			checkRight(t, byhand.Text(byhand.Stored(bits, lastStored, fill, "stored")), first+"stored")
			checkRight(t, byhand.Text(byhand.Stored(bits, storedBlock, fill, "stored"), lastFixed, fixed.Bytes("end"), fixed.End()), first+"storedend")
		}
	}
}

// P10.2: each byte by the fixed codes, alone and with all others.
func TestFixedBytes(t *testing.T) {
	all := ""
	for i := range 256 {
		s := string([]byte{byte(i)})
		checkRight(t, byhand.Text(lastFixed, fixed.Bytes(s), fixed.End()), s)
		all += s
	}
	checkRight(t, byhand.Text(lastFixed, fixed.Bytes(all), fixed.End()), all)
}

// saidAgain answers s, and so many bytes from so far back behind it.
func saidAgain(s string, size, back int) string {
	b := []byte(s)
	for range size {
		b = append(b, b[len(b)-back])
	}
	return string(b)
}

// P10.2: each length, from near and from far: bytes are said one by one, so those that it says itself may be said again.
func TestSayLengths(t *testing.T) {
	first := sample.Text(300, 2)
	for size := 3; size <= 258; size++ {
		for _, back := range []int{1, 2, 3, 4, 5, 7, 255, 299, 300} {
			checkRight(t, byhand.Text(lastFixed, fixed.Bytes(first), fixed.Again(size, back), fixed.End()), saidAgain(first, size, back))
		}
	}
	// Symbol 284 with all its bits more says the greatest length, too.
	greatest := fixed.Symbols[284] + byhand.Number(31, 5) + fixed.Distances[2]
	checkRight(t, byhand.Text(lastFixed, fixed.Bytes("abc"), greatest, fixed.End()), saidAgain("abc", 258, 3))
}

// P10.2: each distance up to 32768, back into a block ahead.
func TestSayDistances(t *testing.T) {
	first := sample.Text(32768, 3)
	want := []byte(first)
	p := fixed
	var bits strings.Builder
	bits.WriteString(byhand.Stored("", storedBlock, "0", first) + lastFixed)
	for back := 1; back <= 32768; back++ {
		bits.WriteString(p.Again(3, back))
		for range 3 {
			want = append(want, want[len(want)-back])
		}
	}
	bits.WriteString(p.End())
	checkRight(t, byhand.Text(bits.String()), string(want))
}

// lengthsOf answers so many lengths, 0 but for some.
func lengthsOf(count int, some map[int]int) []int {
	lengths := make([]int, count)
	for i, n := range some {
		lengths[i] = n
	}
	return lengths
}

// toldBy answers what stands in a block of kind 2 ahead of its text, and the packer of that.
func toldBy(some map[int]int, back ...int) (string, byhand.Packer) {
	count := 257
	for i := range some {
		count = max(count, i+1)
	}
	lengths := lengthsOf(count, some)
	return byhand.HeadOf(lengths, back), byhand.New(lengths, back)
}

// P10.2: a block says again what others said ahead of it, of each kind.
func TestBlocksGoOn(t *testing.T) {
	head, told := toldBy(map[int]int{'c': 2, 256: 2, 257: 2, 258: 2}, 1, 1)
	p := fixed
	bits := byhand.Stored("", storedBlock, "0", "ab") + fixedBlock + p.Again(3, 2) + p.End()
	bits += toldBlock + head + told.Bytes("c") + told.Again(4, 2) + told.Again(3, 1) + told.End()
	want := saidAgain(saidAgain(saidAgain("ab", 3, 2)+"c", 4, 2), 3, 1)
	bits = byhand.Stored(bits, storedBlock, "1", "d") + fixedBlock + p.Again(14, 14) + p.End()
	want = saidAgain(want+"d", 14, 14)
	bits += lastTold + head + told.Again(4, 1) + told.End()
	checkRight(t, byhand.Text(bits), saidAgain(want, 4, 1))
}

// evenRuns are lengths of the code for lengths, of which each one has a code.
func evenRuns() []int { return append(repeated(4, 13), repeated(5, 6)...) }

// expanded answers which lengths runs tell.
func expanded(runs []run) []int {
	var lengths []int
	for _, r := range runs {
		switch r[0] {
		case 16:
			lengths = append(lengths, repeated(lengths[len(lengths)-1], 3+r[1])...)
		case 17:
			lengths = append(lengths, repeated(0, 3+r[1])...)
		case 18:
			lengths = append(lengths, repeated(0, 11+r[1])...)
		default:
			lengths = append(lengths, r[0])
		}
	}
	return lengths
}

// all answers what says all that has a code: each byte, each length at each distance, as far as that many bytes were said, and the end; and what that is.
func all(p byhand.Packer, ahead string) (bits, want string) {
	want = ahead
	for i, code := range p.Symbols[:256] {
		if code != "" {
			bits, want = bits+code, want+string([]byte{byte(i)})
		}
	}
	for i, code := range p.Symbols[257:] {
		for j, distance := range p.Distances {
			size, back := wordsLengths[i], wordsDistances[j]
			if code == "" || distance == "" || back[0] > len(want) {
				continue
			}
			bits += code + byhand.Number(0, size[1]) + distance + byhand.Number(0, back[1])
			want = saidAgain(want, size[0], back[0])
		}
	}
	return bits + p.End(), want
}

// checkTold: lengths that are told by such runs are taken, and what is packed by them is opened.
func checkTold(t *testing.T, symbols, distances int, runs ...run) {
	t.Helper()
	lengths := expanded(runs)
	if len(lengths) != symbols+distances {
		t.Fatalf("%v: %d lengths", runs, len(lengths))
	}
	bits, want := all(byhand.New(lengths[:symbols], lengths[symbols:]), "some")
	checkRight(t, byhand.Text(byhand.Stored("", storedBlock, "0", "some"), lastTold, byhand.Head(symbols, distances, evenRuns(), 19, runs), bits), want)
}

// zeros answers runs that tell so many zeros.
func zeros(n int) []run { return byhand.Runs(repeated(0, n)) }

// P10.2: lengths that are told again, and zeros, as few as may be and as many.
func TestRuns(t *testing.T) {
	for value := range 4 {
		// Of the eight symbols that have three bits one is the end.
		runs := append([]run{{3, 0}, {16, value}}, slices.Repeat([]run{{3, 0}}, 7-4-value)...)
		checkTold(t, 257, 1, slices.Concat(runs, zeros(249), []run{{3, 0}, {0, 0}})...)
		// Zeros are told again, too: those that are told one by one, and those in a row.
		for _, first := range []run{{0, 0}, {17, 0}, {17, 7}, {18, 0}, {18, 127}} {
			behind := 255 - len(expanded([]run{first})) - 3 - value
			checkTold(t, 257, 1, slices.Concat([]run{first, {16, value}, {1, 0}}, zeros(behind), []run{{1, 0}, {0, 0}})...)
		}
	}
	for value := range 8 {
		checkTold(t, 257, 1, slices.Concat([]run{{17, value}, {1, 0}}, zeros(252-value), []run{{1, 0}, {0, 0}})...)
	}
	for value := range 128 {
		checkTold(t, 257, 1, slices.Concat([]run{{1, 0}, {18, value}}, zeros(244-value), []run{{1, 0}, {1, 0}})...)
	}
}

// P10.2: symbols and distances are told in one list: what is told again goes over from the ones to the others.
func TestOneList(t *testing.T) {
	checkTold(t, 257, 4, slices.Concat(zeros(253), []run{{2, 0}, {2, 0}, {2, 0}, {2, 0}, {16, 1}})...)
	checkTold(t, 257, 4, slices.Concat(zeros(253), []run{{2, 0}, {16, 3}, {2, 0}})...)
	checkTold(t, 258, 8, slices.Concat(zeros(255), []run{{1, 0}, {2, 0}, {2, 0}, {3, 0}, {16, 3}, {3, 0}})...)
	checkTold(t, 259, 30, slices.Concat(zeros(255), []run{{1, 0}, {1, 0}, {17, 7}, {18, 11}})...)
	checkTold(t, 286, 30, slices.Concat([]run{{1, 0}}, zeros(255), []run{{1, 0}, {18, 29 + 30 - 11}})...)
	checkTold(t, 286, 2, slices.Concat([]run{{1, 0}}, zeros(255), []run{{1, 0}, {18, 29 - 11}, {1, 0}, {1, 0}})...)
	checkTold(t, 260, 2, slices.Concat([]run{{2, 0}}, zeros(255), []run{{1, 0}, {0, 0}, {0, 0}, {2, 0}, {0, 0}, {1, 0}})...)
}

// P10.2, P10.3: 257 to 286 symbols may be told, and 1 to 30 distances: no more, though there be no codes for them.
func TestToldCounts(t *testing.T) {
	for symbols := 257; symbols <= 288; symbols++ {
		for distances := 1; distances <= 32; distances++ {
			runs := slices.Concat(zeros(255), []run{{1, 0}, {1, 0}}, zeros(symbols-257+distances-1), []run{{1, 0}})
			if symbols <= 286 && distances <= 30 {
				checkTold(t, symbols, distances, runs...)
			} else {
				checkWrong(t, 0, lastTold, byhand.Head(symbols, distances, evenRuns(), 19, runs))
			}
		}
	}
}

// P10.2: of the code for lengths 5 to 19 lengths are told, in their order; the others are 0.
func TestToldOrder(t *testing.T) {
	var counts []int
	for _, last := range order[4:] {
		lengths := repeated(last, 1<<min(last, 8)-1)
		if last > 8 {
			// As many codes as may be have eight bits, but one: that one's share is for longer codes.
			lengths = repeated(8, 255)
			for n := 9; n <= last; n++ {
				lengths = append(lengths, n)
			}
		}
		lengths = append(append(lengths, repeated(0, max(0, 256-len(lengths)))...), last)
		if !areCode(lengths) {
			t.Fatal(lengths)
		}
		told, count := byhand.HeadOf(lengths, []int{0}), 4
		for i := range 4 {
			count += int(told[10+i]-'0') << i
		}
		counts = append(counts, count)
		bits, want := all(byhand.New(lengths, []int{0}), "")
		checkRight(t, byhand.Text(lastTold, told, bits), want)
	}
	if !slices.Equal(counts, []int{5, 6, 7, 8, 9, 10, 11, 12, 13, 14, 15, 16, 17, 18, 19}) {
		t.Errorf("so many lengths were told: %v", counts)
	}
	// Four tell no length but 0.
	checkWrong(t, 0, lastTold, byhand.Head(257, 1, []int{0: 2, 18: 2, 17: 2, 16: 2}, 4, zeros(258)))
}

// P10.2: one code alone, of one bit, may be that of symbols, or of distances; distances may have none, if none is asked for.
func TestOneCode(t *testing.T) {
	for _, back := range [][]int{{0}, {1}, {0, 0, 0}, {0, 1}, repeated(0, 30), append(repeated(0, 29), 1)} {
		told, p := toldBy(map[int]int{256: 1}, back...)
		checkRight(t, byhand.Text(lastTold, told, p.End()), "")
		checkWrong(t, 0, lastTold, told, "1")
	}
	for at := range 4 {
		told, p := toldBy(map[int]int{'a': 1, 256: 2, 257: 2}, append(repeated(0, at), 1)...)
		checkRight(t, byhand.Text(lastTold, told, p.Bytes("aaaa"), p.Again(3, at+1), p.End()), "aaaaaaa")
		checkWrong(t, 4, lastTold, told, p.Bytes("aaaa"), p.Symbols[257], "1")
	}
	for n := range 30 {
		told, p := toldBy(map[int]int{'a': 1, 256: 2, 257: 2}, repeated(0, n+1)...)
		checkRight(t, byhand.Text(lastTold, told, p.Bytes("aaaa"), p.End()), "aaaa")
		checkWrong(t, 4, lastTold, told, p.Bytes("aaaa"), p.Symbols[257])
	}
}

// P10.3: codes that leave bits which begin with none, or that are too many: of lengths, of symbols, of distances.
func TestNoCodes(t *testing.T) {
	runs := slices.Concat([]run{{1, 0}}, zeros(255), []run{{1, 0}, {1, 0}}) // 1 and 18 alone
	checkOpen(t, byhand.Text(lastTold, byhand.Head(257, 1, lengthsOf(19, map[int]int{1: 1, 18: 1}), 19, runs), "1"), 0, "", 12, api.OK)
	for _, wrong := range []map[int]int{
		{}, {1: 2, 18: 2}, {1: 1, 18: 2}, {1: 2, 18: 1}, {1: 3, 18: 3}, {1: 7, 18: 7}, {1: 1, 18: 7}, {1: 2, 18: 2, 0: 2}, {1: 1, 18: 2, 0: 3}, {1: 2}, {18: 7},
		{1: 1, 18: 1, 0: 1}, {1: 1, 18: 1, 0: 7}, {1: 2, 18: 2, 0: 2, 2: 2, 3: 7}, {1: 1, 18: 2, 0: 2, 2: 2},
	} {
		checkWrong(t, 0, lastTold, byhand.Head(257, 1, lengthsOf(19, wrong), 19, runs))
	}
	for _, wrong := range []map[int]int{{256: 2}, {256: 15}, {'a': 2, 256: 2}, {'a': 1, 256: 2}, {'a': 1, 'b': 3, 256: 3}, {'a': 1, 'b': 1, 256: 1}, {'a': 1, 'b': 1, 256: 15}, {'a': 1, 'b': 2, 'c': 2, 256: 2}, {'a': 1, 256: 2, 257: 3}, {256: 1, 257: 1, 285: 1}, {256: 1, 285: 2}} {
		for _, back := range [][]int{{0}, {1}, {1, 1}} {
			told, _ := toldBy(wrong, back...)
			checkWrong(t, 0, lastTold, told)
		}
	}
	for _, wrong := range [][]int{{2}, {15}, {0, 3}, {2, 2}, {1, 2}, {2, 2, 2}, {1, 3, 3}, {1, 1, 1}, {1, 1, 15}, {2, 2, 2, 2, 2}, repeated(5, 30), append(repeated(0, 29), 2)} {
		told, p := toldBy(map[int]int{'a': 1, 256: 1}, wrong...)
		checkWrong(t, 0, lastTold, told, p.End())
	}
	// They are asked of both, though no distance is asked for.
	told, p := toldBy(map[int]int{'a': 1, 256: 1}, repeated(4, 16)...)
	checkRight(t, byhand.Text(lastTold, told, p.Bytes("a"), p.End()), "a")
}

// P10.3: the last length is told again ahead of any.
func TestNothingAgain(t *testing.T) {
	for value := range 4 {
		checkWrong(t, 0, lastTold, byhand.Head(257, 1, evenRuns(), 19, slices.Concat([]run{{16, value}}, zeros(253-value-1), []run{{1, 0}, {1, 0}, {1, 0}})))
		checkWrong(t, 0, lastTold, byhand.Head(257, 1, evenRuns(), 19, []run{{16, value}}))
	}
}

// P10.3: more lengths than there are to be, by each symbol that tells some; as many as are to be are taken.
func TestTooManyLengths(t *testing.T) {
	begin := slices.Concat(zeros(255), []run{{1, 0}, {1, 0}})
	for value := range 4 {
		steep := slices.Concat(zeros(256), []run{{1, 0}, {0, 0}})
		checkTold(t, 257, 4+value, append(steep, run{16, value})...)
		checkWrong(t, 0, lastTold, byhand.Head(257, 3+value, evenRuns(), 19, append(steep, run{16, value})))
		checkWrong(t, 0, lastTold, byhand.Head(257, 2, evenRuns(), 19, append(steep, run{16, value})))
	}
	for value := range 8 {
		checkTold(t, 257, 3+value, append(begin, run{17, value})...)
		checkWrong(t, 0, lastTold, byhand.Head(257, 2+value, evenRuns(), 19, append(begin, run{17, value})))
		checkWrong(t, 0, lastTold, byhand.Head(257, 1, evenRuns(), 19, append(begin, run{17, value})))
	}
	for value := range 128 {
		if value+11 <= 29+30 {
			symbols := min(257+value+10, 286)
			checkTold(t, symbols, 257+value+11-symbols, append(begin, run{18, value})...)
		}
		if value+10 <= 30 {
			checkWrong(t, 0, lastTold, byhand.Head(257, value+10, evenRuns(), 19, append(begin, run{18, value})))
		}
		checkWrong(t, 0, lastTold, byhand.Head(257, 1, evenRuns(), 19, append(begin, run{18, value})))
	}
}

// P10.3: a block that could not end is refused, though all else is right.
func TestNoEnd(t *testing.T) {
	for _, some := range []map[int]int{{'a': 1}, {'a': 1, 'b': 1}, {'a': 1, 257: 1}, {255: 1, 257: 1}, {0: 1}, {285: 1}, {}} {
		for _, back := range [][]int{{0}, {1}, {1, 1}, {0, 0, 1}} {
			told, _ := toldBy(some, back...)
			checkWrong(t, 0, lastTold, told)
			checkWrong(t, 2, byhand.Stored("", storedBlock, "0", "ab"), lastTold, told)
		}
	}
}

// P10.3: symbols and distances that have a code, but mean nothing.
func TestSymbolsThatAreNone(t *testing.T) {
	p := fixed
	for _, ahead := range []string{"", sample.Text(200, 1)} {
		for _, symbol := range []int{286, 287} {
			checkWrong(t, len(ahead), lastFixed, p.Bytes(ahead), p.Symbols[symbol])
		}
		for _, distance := range []int{30, 31} {
			checkWrong(t, len(ahead), lastFixed, p.Bytes(ahead), p.Symbols[257], p.Distances[distance])
		}
	}
	long := sample.Text(40000, 1)
	for _, distance := range []int{30, 31} {
		checkWrong(t, len(long), byhand.Stored("", storedBlock, "0", long), lastFixed, p.Symbols[285], p.Distances[distance])
	}
}

// P10.3: as far back as all that was said began, in whichever block, and no farther.
func TestTooFarBack(t *testing.T) {
	t.Parallel()
	p := fixed
	for n := 1; n <= 70; n++ {
		s := sample.Text(n, 1)
		for _, ahead := range []string{fixedBlock + p.Bytes(s) + p.End(), byhand.Stored("", storedBlock, "0", s), byhand.Stored(fixedBlock+p.Bytes(s[:n/2])+p.End(), storedBlock, "0", s[n/2:])} {
			checkRight(t, byhand.Text(ahead, lastFixed, p.Again(5, n), p.End()), saidAgain(s, 5, n))
			for _, back := range []int{n + 1, n + 2, 2 * n, 100, 32768} {
				if back > n {
					checkWrong(t, n, ahead, lastFixed, p.Again(5, back), p.End())
				}
			}
		}
		// What a block said itself counts, too.
		checkRight(t, byhand.Text(lastFixed, p.Bytes(s), p.Again(3, n), p.Again(3, n+3), p.End()), saidAgain(saidAgain(s, 3, n), 3, n+3))
		checkWrong(t, n+3, lastFixed, p.Bytes(s), p.Again(3, n), p.Again(3, n+4), p.End())
	}
	checkWrong(t, 0, lastFixed, p.Again(3, 1), p.End())
	checkWrong(t, 0, byhand.Stored("", storedBlock, "0", ""), lastFixed, p.Again(258, 1), p.End())
	for _, n := range []int{32767, 32766, 24577, 24576} {
		s := sample.Text(n, 1)
		checkRight(t, byhand.Text(byhand.Stored("", storedBlock, "0", s), lastFixed, p.Again(9, n), p.End()), saidAgain(s, 9, n))
		checkWrong(t, n, byhand.Stored("", storedBlock, "0", s), lastFixed, p.Again(9, n+1), p.End())
	}
}

// P10.3: blocks of kind 3, wherever they stand, though what stands in them be that of another kind.
func TestKindThree(t *testing.T) {
	head, p := toldBy(map[int]int{'a': 1, 256: 1}, 0)
	for said, ahead := range []string{"", fixedBlock + fixed.Bytes("a") + fixed.End(), byhand.Stored("", storedBlock, "0", "ab"), toldBlock + head + p.Bytes("aaa") + p.End()} {
		for _, begin := range []string{wrongBlock, lastWrong} {
			checkWrong(t, said, ahead, begin)
			for _, s := range []string{"", "some"} {
				checkWrong(t, said, byhand.Stored(ahead, begin, "0", s))
				checkWrong(t, said, ahead, begin, fixed.Bytes(s), fixed.End())
			}
			checkWrong(t, said, ahead, begin, head, p.Bytes("a"), p.End())
		}
	}
	// Behind the last block anything may stand.
	checkOpen(t, byhand.Text(lastFixed, fixed.Bytes("a"), fixed.End(), lastWrong), 9, "a", 3, api.OK)
}

// P10.3: a number behind N that is wrong in some bits.
func TestStoredNumber(t *testing.T) {
	for _, n := range []int{0, 1, 3, 255, 256, 0x5555} {
		s := []byte(byhand.Text(byhand.Stored("", lastStored, "0", sample.Text(n, 1))))
		for bit := 8; bit < 40; bit++ {
			s[bit/8] ^= 1 << (bit % 8)
			checkWrong(t, 0, byhand.Bits(string(s)))
			s[bit/8] ^= 1 << (bit % 8)
		}
		same := append([]byte{1, byte(n), byte(n >> 8), byte(n), byte(n >> 8)}, s[5:]...)
		checkWrong(t, 0, byhand.Bits(string(same)))
		checkRight(t, string(s), sample.Text(n, 1))
	}
}

// P10.3: s ends too early, wherever it does.
func TestEndsTooEarly(t *testing.T) {
	t.Parallel()
	all := []string{"\x03\x00", "\x00\x00\x00\xff\xff\x03\x00", "\x4b\x4c\x4a\x06\x00"}
	for _, s := range someTexts() {
		for kind := range 3 {
			packed, _ := byhand.Pack(s[:min(len(s), 1000)], 300, kind)
			all = append(all, packed)
		}
		all = append(all, libraryPacked(t, s[:min(len(s), 1000)], flate.BestCompression, 400))
	}
	for _, s := range all {
		if _, used, e := Open(s, api.MaxOut); used != len(s) || e != api.OK {
			t.Fatalf("%s: %d, %d", short(s), used, e)
		}
		for n := range len(s) {
			checkOpen(t, s[:n], api.MaxOut, "", 0, api.ErrForm)
		}
	}
}

// P10.3: a stored block that has more or fewer bytes than it tells, and than there is room for: of both faults the first one is told.
func TestStoredRoom(t *testing.T) {
	const bytes = "0123456789ab"
	for size := range 12 {
		for there := range len(bytes) {
			for most := range 14 {
				s := byhand.Text(lastStored, "00000", byhand.Number(size, 16), byhand.Number(65535-size, 16), byhand.Bits(bytes[:there]))
				switch {
				case there >= size && most >= size:
					checkOpen(t, s, most, bytes[:size], 5+size, api.OK)
				case most < size && most < there:
					checkOpen(t, s, most, "", 0, api.ErrLong)
				default:
					checkOpen(t, s, most, "", 0, api.ErrForm)
				}
			}
		}
	}
	checkOpen(t, byhand.Text(lastStored, "00000", byhand.Number(9, 16), byhand.Number(65534-9, 16), byhand.Bits(bytes)), 0, "", 0, api.ErrForm)
	checkOpen(t, byhand.Text(lastStored, "00000", byhand.Number(9, 16), byhand.Number(65535-9, 12)), 0, "", 0, api.ErrForm)
}

// P10.3: of more bytes than may be said, and of what else is wrong, the first one that is met is told.
func TestFirstFault(t *testing.T) {
	p := fixed
	five := fixedBlock + p.Bytes("abcde")
	for _, c := range []struct {
		bits string
		most int
		e    api.Errno
	}{
		{five + p.Bytes("f"), 5, api.ErrLong}, {five + p.Bytes("f"), 4, api.ErrLong}, {five + p.Bytes("f") + p.Symbols[286], 5, api.ErrLong},
		{five + p.Symbols[286], 5, api.ErrForm}, {five + p.Symbols[286], 4, api.ErrLong}, {five + p.Symbols[286] + p.Bytes("f"), 5, api.ErrForm},
		{five + p.Again(3, 5), 7, api.ErrLong}, {five + p.Again(3, 5), 5, api.ErrLong}, {five + p.Again(258, 1), 262, api.ErrLong},
		{five + p.Again(3, 6), 5, api.ErrForm}, {five + p.Again(3, 6), 0, api.ErrLong}, {five + p.Again(3, 6), 4, api.ErrLong}, {fixedBlock + p.Again(3, 1), 0, api.ErrForm},
		{five + p.Symbols[257] + p.Distances[30], 5, api.ErrForm}, {five + p.Symbols[257] + p.Distances[30], 6, api.ErrForm},
		{five + p.Again(3, 5) + p.Symbols[287], 7, api.ErrLong}, {five + p.Again(3, 5) + p.Symbols[287], 8, api.ErrForm},
		{five + p.End() + lastWrong, 5, api.ErrForm}, {five + p.End() + lastWrong, 4, api.ErrLong},
		{five + p.End() + lastFixed + p.Bytes("f") + p.End(), 5, api.ErrLong}, {byhand.Stored(five+p.End(), lastStored, "0", "f"), 5, api.ErrLong},
		{lastWrong, 0, api.ErrForm}, {byhand.Stored("", storedBlock, "0", "f") + lastWrong, 0, api.ErrLong},
	} {
		checkOpen(t, byhand.Text(c.bits, strings.Repeat("1", 40)), c.most, "", 0, c.e)
	}
	// The text ends within a length or a distance: that is met ahead of the first byte that they say.
	for n := 5; n < 13; n++ {
		said := strings.Repeat("\xc8", n)
		begin := fixedBlock + p.Bytes(said)
		whole := begin + p.Again(200, 5)
		for cut := len(begin); cut < len(whole); cut++ {
			if cut%8 == 0 {
				checkOpen(t, byhand.Text(whole[:cut]), n, "", 0, api.ErrForm)
				checkOpen(t, byhand.Text(whole[:cut]), n-1, "", 0, api.ErrLong)
			}
		}
		checkOpen(t, byhand.Text(whole), n, "", 0, api.ErrLong)
	}
	// Where there is no room left, blocks that say nothing are none too many.
	nothing := five + p.End() + fixedBlock + p.End()
	nothing = byhand.Stored(byhand.Stored(nothing, storedBlock, "1", ""), lastStored, "1", "")
	checkOpen(t, byhand.Text(nothing), 5, "abcde", len(nothing)/8, api.OK)
}

// P10.2: as many bytes as may be unpacked at all, and one more.
func TestMostOfAll(t *testing.T) {
	p := fixed
	var bits strings.Builder
	bits.WriteString(lastFixed + p.Bytes("zz"))
	for range (1<<20 - 2) / 258 {
		bits.WriteString(p.Again(258, 2))
	}
	bits.WriteString(p.Again((1<<20-2)%258, 1))
	checkRight(t, byhand.Text(bits.String(), p.End()), strings.Repeat("z", 1<<20))
	checkOpen(t, byhand.Text(bits.String(), p.Bytes("z"), p.End()), 1<<20, "", 0, api.ErrLong)
	all := sample.Text(1<<20, 1)
	s := libraryPacked(t, all, flate.NoCompression, len(all))
	checkRight(t, s, all)
	checkOpen(t, libraryPacked(t, all+"z", flate.NoCompression, len(all)), 1<<20, "", 0, api.ErrLong)
	checkRight(t, libraryPacked(t, all, flate.HuffmanOnly, len(all)), all)
}

// P10.2: many blocks that say nothing, of each kind.
func TestManyBlocks(t *testing.T) {
	head, p := toldBy(map[int]int{256: 1}, 0)
	for _, block := range []string{fixedBlock + fixed.End(), toldBlock + head + p.End(), byhand.Stored("", storedBlock, "0", "")} {
		for len(block)%8 != 0 {
			block += block
		}
		s := strings.Repeat(byhand.Text(block), 400000/len(block))
		checkRight(t, s+"\x03\x00", "")
		checkOpen(t, s, 0, "", 0, api.ErrForm)
	}
}

// checkWords holds Open of s against the chapter's words, for some mosts.
func checkWords(t *testing.T, s string) (right bool) {
	t.Helper()
	for _, most := range []int{api.MaxOut, 40, 0} {
		out, used, e := wordsOpen(s, most)
		checkOpen(t, s, most, out, used, e)
		right = right || e == api.OK
	}
	return right
}

// P10.2, P10.3: packed texts in which a bit is turned, or some bytes are others: in the chapter's words.
func TestOpenTurned(t *testing.T) {
	t.Parallel()
	right, wrong := 0, 0
	count := func(ok bool) {
		if ok {
			right++
		} else {
			wrong++
		}
	}
	for i, s := range someTexts() {
		s = s[:min(len(s), 90)]
		for kind := range 3 {
			p, _ := byhand.Pack(s, 50, kind)
			b := []byte(p)
			for bit := range 8 * len(b) {
				b[bit/8] ^= 1 << (bit % 8)
				count(checkWords(t, string(b)))
				b[bit/8] ^= 1 << (bit % 8)
			}
			for at := range b {
				count(checkWords(t, p[:at]+sample.Text(3, 9*at+i)+p[at:]))
				count(checkWords(t, p[:at]+p[min(at+2, len(p)):]))
			}
		}
	}
	if right < 1000 || wrong < 1000 {
		t.Errorf("%d are opened, %d are not", right, wrong)
	}
}

// P10.2, P10.3: any bytes, behind the beginning of each kind of block.
func TestOpenAny(t *testing.T) {
	t.Parallel()
	head, p := toldBy(map[int]int{'a': 2, 'b': 3, 'c': 3, 256: 4, 257: 4, 260: 2, 270: 3}, 2, 2, 2, 3, 0, 3)
	checkRight(t, byhand.Text(lastTold, head, p.Bytes("abc"), p.End()), "abc")
	for i := range 1500 {
		bits := byhand.Bits(sample.Text(i%200, i))
		for _, begin := range []string{"", storedBlock, fixedBlock, toldBlock, toldBlock + head, fixedBlock + fixed.Bytes("some"), lastTold + byhand.Number(1, 5) + byhand.Number(1, 5) + byhand.Number(15, 4) + strings.Repeat(byhand.Number(4, 3), 13) + strings.Repeat(byhand.Number(5, 3), 6)} {
			checkWords(t, byhand.Text(begin, bits))
		}
	}
	for i := range 1 << 16 {
		checkWords(t, string([]byte{byte(i), byte(i >> 8)}))
	}
}

// P10.4: what is packed in the words of chapter 11 is opened as it was: of each kind of block, and of those that are shortest, in the pieces that it tells and in others.
func TestPackedIsOpened(t *testing.T) {
	t.Parallel()
	var kinds [3]int
	for _, s := range someTexts() {
		for kind := byhand.KindAny; kind < 3; kind++ {
			for _, piece := range []int{32768, 1000, 65535} {
				packed, used := byhand.Pack(s, piece, kind)
				checkRight(t, packed, s)
				if kind == byhand.KindAny && piece == 32768 {
					for i, n := range used {
						kinds[i] += n
					}
				}
			}
		}
	}
	if slices.Min(kinds[:]) == 0 {
		t.Errorf("so many blocks of the kinds: %v", kinds)
	}
}

// P3: a text is neither written into nor kept, and what is answered is no part of it.
func TestTextsAreNotKept(t *testing.T) {
	const whole = "\x01\x06\x00\xf9\xffstored" + "more"
	memory := []byte(whole)
	out, used, e := Open(unsafe.String(&memory[0], 11), 6)
	if string(memory) != whole {
		t.Error("written into")
	}
	clear(memory)
	if out != "stored" || used != 11 || e != api.OK {
		t.Errorf("got %q, %d, %d", out, used, e)
	}
	checkOpen(t, "\x4b\x04\x00", 1, "a", 3, api.OK)
}

// P4: what others ask at the same time is not to be seen.
func TestAtOneTime(t *testing.T) {
	var wait sync.WaitGroup
	for i := range 8 {
		wait.Go(func() {
			for j, s := range someTexts() {
				s = s[:min(len(s), 2000)]
				packed, _ := byhand.Pack(s, 700, (i+j)%4-1)
				checkRight(t, packed, s)
			}
		})
	}
	wait.Wait()
}
