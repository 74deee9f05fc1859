package gz_test

import (
	"bytes"
	"compress/gzip"
	"encoding/hex"
	"io"
	"math"
	"strings"
	"sync"
	"testing"
	"time"
	"unsafe"

	"engrosser/api"
	"engrosser/byhand"
	"engrosser/gz"
	"engrosser/sample"
)

// inHex answers s in hex, or its beginning.
func inHex(s string) string {
	if len(s) > 60 {
		return hex.EncodeToString([]byte(s[:60])) + ".."
	}
	return hex.EncodeToString([]byte(s))
}

// checkOpen holds Open against what it is to answer.
func checkOpen(t *testing.T, b string, most int, want string, e api.Errno) {
	t.Helper()
	if got, f := gz.Open(b, most); got != want || f != e {
		t.Errorf("Open(%s, %d), %d bytes: got %s (%d bytes), %d, not %s (%d), %d", inHex(b), most, len(b), inHex(got), len(got), f, inHex(want), len(want), e)
	}
}

// checkRight: b says s, with just as much room, and with all there can be.
func checkRight(t *testing.T, b, s string) {
	t.Helper()
	checkOpen(t, b, len(s), s, api.OK)
	checkOpen(t, b, api.MaxOut, s, api.OK)
	if s != "" {
		checkOpen(t, b, len(s)-1, "", api.ErrLong)
	}
}

// checkWords holds Open against the chapter's words, and answers the error that is told.
func checkWords(t *testing.T, b string, most int) api.Errno {
	t.Helper()
	want, e := wordsOpen(b, most)
	if e == formOrSum {
		e = api.ErrForm
		if _, got := gz.Open(b, most); got == api.ErrSum {
			e = got
		}
	}
	checkOpen(t, b, most, want, e)
	return e
}

// libraryOpened answers what b says as Go's own library tells.
func libraryOpened(b string) (string, error) {
	r, err := gzip.NewReader(strings.NewReader(b))
	if err != nil {
		return "", err
	}
	s, err := io.ReadAll(r)
	return string(s), err
}

// someTexts answers texts of many kinds.
func someTexts() []string {
	texts := []string{
		"", "a", "ab", "abc", "aaaa", "a certificate, a precertificate, a certificate", "\x00", "\xff\x00\xff", "äöü€",
		strings.Repeat("\x00", 1000), strings.Repeat("ab", 300), strings.Repeat("0123456789", 7000),
		sample.Text(300, 2), sample.Text(5000, 3), sample.Text(32768, 6), sample.Text(32769, 7), sample.Text(65536, 8), sample.Text(65537, 8),
	}
	for n := range 40 {
		texts = append(texts, sample.Text(n, n), strings.Repeat("x", 20*n+254))
	}
	return texts
}

// P12.1: members that are known, byte by byte.
func TestPackKnown(t *testing.T) {
	const ahead = "1f8b08000000000000ff"
	for s, want := range map[string]string{
		"": ahead + "0300" + "00000000" + "00000000", "a": ahead + "4b0400" + "43beb7e8" + "01000000", "abc": ahead + "4b4c4a0600" + "c2412435" + "03000000",
		"123456789": ahead + "33343236313533b7b00400" + "2639f4cb" + "09000000", "\x00": ahead + "630000" + "8def02d2" + "01000000",
	} {
		if got := hex.EncodeToString([]byte(gz.Pack(s))); got != want {
			t.Errorf("Pack(%s): got %s, not %s", inHex(s), got, want)
		}
	}
}

// P12.1: texts of many kinds, in the chapters' words, which Go's own library opens.
func TestPackTexts(t *testing.T) {
	for _, s := range someTexts() {
		got := gz.Pack(s)
		if want := "\x1f\x8b\x08\x00\x00\x00\x00\x00\x00\xff" + handPacked(s) + seal(s); got != want {
			t.Errorf("Pack(%s), %d bytes: got %s, not %s (%d bytes, not %d)", inHex(s), len(s), inHex(got), inHex(want), len(got), len(want))
		}
		if said, err := libraryOpened(got); said != s || err != nil {
			t.Errorf("Pack(%s), %d bytes: opened: %s, %v", inHex(s), len(s), inHex(said), err)
		}
	}
}

// P12.1: a length of four bytes, each of another value.
func TestPackLong(t *testing.T) {
	t.Parallel()
	s := strings.Repeat("\x00", 0x01020304)
	got := gz.Pack(s)
	if want := seal(s); got[len(got)-8:] != want || want[4:] != "\x04\x03\x02\x01" {
		t.Errorf("got %x, not %x", got[len(got)-8:], want)
	}
	if said, err := libraryOpened(got); said != s || err != nil {
		t.Errorf("opened: %d bytes, %v", len(said), err)
	}
	checkOpen(t, got, api.MaxOut, "", api.ErrLong)
}

// P12.2: the chapter's example, and others that are known.
func TestOpenKnown(t *testing.T) {
	checkOpen(t, gz.Pack("abc"), 3, "abc", api.OK)
	for b, want := range map[string]string{
		"1f8b08000000000000ff" + "0300" + "00000000" + "00000000": "", "1f8b08000000000000ff" + "4b0400" + "43beb7e8" + "01000000": "a",
		// As a stored block, and as two blocks; with a time, the most effort, and another system.
		"1f8b0800a1b2c3d40203" + "010300fcff616263" + "c2412435" + "03000000": "abc", "1f8b0800ffffffffffff" + "4a0404" + "0000ffff" + "43beb7e8" + "01000000": "a",
	} {
		text, err := hex.DecodeString(b)
		if err != nil {
			t.Fatal(err)
		}
		checkRight(t, string(text), want)
	}
}

// P12.2: a most that is not 0 to MaxOut is refused ahead of all else.
func TestMost(t *testing.T) {
	for _, b := range []string{gz.Pack(""), gz.Pack("a"), "", "x", gz.Pack("a") + "x", full(32).text(), gz.Pack("")[:11], gz.Pack("")[:17] + "x"} {
		for _, most := range []int{-1, -2, math.MinInt32, -math.MaxInt, math.MinInt, api.MaxOut + 1, api.MaxOut + 2, math.MaxInt32, math.MaxUint32, 1 << 32, 1 << 62, math.MaxInt} {
			checkOpen(t, b, most, "", api.ErrArg)
		}
	}
	for _, most := range []int{0, 1, 2, 40, api.MaxOut - 1, api.MaxOut} {
		checkOpen(t, gz.Pack(""), most, "", api.OK)
	}
}

// P12.2: all flags, with what they say.
func TestFlags(t *testing.T) {
	for flags := range 256 {
		m := full(flags)
		if flags >= 32 {
			checkOpen(t, m.text(), 1, "", api.ErrForm)
			continue
		}
		checkRight(t, m.text(), "a")
		if said, err := libraryOpened(m.text()); said != "a" || err != nil {
			t.Errorf("%d: the library opens %s, %v", flags, inHex(said), err)
		}
		// Nothing hangs on flag 1, but for the head's sum.
		if flags&flagSum == 0 {
			b := []byte(m.text())
			b[3] ^= flagText
			checkRight(t, string(b), "a")
		}
	}
}

// P12.2: what begins otherwise.
func TestBegin(t *testing.T) {
	for _, flags := range []int{0, 31} {
		b := []byte(full(flags).text())
		for bit := range 24 {
			b[bit/8] ^= 1 << (bit % 8)
			checkOpen(t, string(b), 1, "", api.ErrForm)
			b[bit/8] ^= 1 << (bit % 8)
		}
		checkOpen(t, string(b), 1, "a", api.OK)
		checkOpen(t, " "+string(b), 1, "", api.ErrForm)
		checkOpen(t, string(b[1:]), 1, "", api.ErrForm)
	}
}

// P12.2: the six bytes behind the flags may be any.
func TestSixBytes(t *testing.T) {
	for i := range 6 {
		for value := range 256 {
			for _, flags := range []int{0, 31} {
				m := full(flags)
				m.six = m.six[:i] + bytesOf(value, 1) + m.six[i+1:]
				checkOpen(t, m.text(), 1, "a", api.OK)
			}
		}
	}
}

// P12.2: a member that ends too early, wherever it does.
func TestEndsTooEarly(t *testing.T) {
	for flags := range 32 {
		b := full(flags).text()
		for n := range len(b) {
			checkOpen(t, b[:n], 1, "", api.ErrForm)
		}
	}
	for _, s := range someTexts() {
		b := gz.Pack(s[:min(len(s), 300)])
		for n := range len(b) {
			checkOpen(t, b[:n], api.MaxOut, "", api.ErrForm)
		}
	}
}

// P12.2: so many bytes of flag 4 as are told, the lower one first.
func TestExtra(t *testing.T) {
	for _, n := range []int{0, 1, 2, 8, 127, 128, 255, 256, 257, 258, 511, 512, 513, 4096, 32767, 32768, 65279, 65280, 65534, 65535} {
		for _, flags := range []int{flagExtra, flagExtra | flagSum, flagExtra | flagName, 31} {
			m := full(flags)
			for _, m.extra = range []string{sample.Text(n, 1), strings.Repeat("\x00", n), strings.Repeat("\xff", n)} {
				checkOpen(t, m.text(), 1, "a", api.OK)
			}
		}
		m := full(flagExtra)
		m.extra = strings.Repeat("\x4b", n)
		if n > 0 {
			checkOpen(t, m.ahead()[:11+n], 1, "", api.ErrForm)
		}
		checkOpen(t, m.ahead(), 1, "", api.ErrForm)
		checkOpen(t, m.ahead()+m.packed, 1, "", api.ErrForm)
	}
	// Five bytes stand there, behind which others would be packed.
	for told := range 1 << 16 {
		if told > 50 && told%256 > 2 {
			continue
		}
		m := full(0)
		want, e := "", api.ErrForm
		if told == 5 {
			want, e = "a", api.OK
		}
		checkOpen(t, "\x1f\x8b\x08\x04"+m.six+bytesOf(told, 2)+"\x07\x07\x07\x07\x07"+m.packed+m.end, 1, want, e)
	}
}

// P12.2: names and remarks go up to a byte 0, of any bytes and of any length.
func TestTexts(t *testing.T) {
	for _, n := range []int{0, 1, 2, 100, 255, 256, 511, 512, 513, 65535, 65536, 70000} {
		text := strings.ReplaceAll(sample.Text(n, 1), "\x00", "\xff")
		for _, flags := range []int{flagName, flagRemark, flagName | flagRemark, flagName | flagSum, flagRemark | flagSum, 31} {
			m := full(flags)
			for _, m.name = range []string{"", "n", text} {
				for _, m.remark = range []string{"", "r", text} {
					checkOpen(t, m.text(), 1, "a", api.OK)
				}
			}
		}
	}
	// No byte 0 stands behind.
	six := full(0).six
	for _, text := range []string{"", "x", "\xff", "name", strings.Repeat("\x01", 70000)} {
		checkOpen(t, "\x1f\x8b\x08\x08"+six+text, 1, "", api.ErrForm)
		checkOpen(t, "\x1f\x8b\x08\x10"+six+text, 1, "", api.ErrForm)
		checkOpen(t, "\x1f\x8b\x08\x18"+six+"\x00"+text, 1, "", api.ErrForm)
		checkOpen(t, "\x1f\x8b\x08\x1a"+six+"name\x00"+text, 1, "", api.ErrForm)
	}
}

// P12.2: the parts stand in the order of flags 4, 8, 16 and 2.
func TestOrder(t *testing.T) {
	const (
		begin  = "\x1f\x8b\x08"
		six    = "\x00\x00\x00\x00\x00\xff"
		packed = "\x4b\x04\x00"
	)
	for flags, parts := range map[string][]string{"\x0c": {"\x02\x00ex", "n\x00"}, "\x14": {"\x02\x00ex", "r\x00"}, "\x1c": {"\x02\x00ex", "n\x00", "r\x00"}} {
		right := begin + flags + six + strings.Join(parts, "") + packed + seal("a")
		checkOpen(t, right, 1, "a", api.OK)
		turned := begin + flags + six + strings.Join(parts[1:], "") + parts[0] + packed + seal("a")
		checkOpen(t, turned, 1, "", api.ErrForm)
	}
	// The sum stands behind the others: ahead of any of them it is none.
	for _, flags := range []int{flagExtra, flagName, flagRemark, 4 + 8 + 16} {
		m := full(flags)
		fixed := begin + bytesOf(flags|flagSum, 1) + m.six
		parts := m.ahead()[10:]
		checkOpen(t, fixed+parts+bytesOf(sumOf(fixed+parts), 2)+packed+seal("a"), 1, "a", api.OK)
		if _, e := gz.Open(fixed+bytesOf(sumOf(fixed), 2)+parts+packed+seal("a"), 1); e == api.OK {
			t.Errorf("%d: the sum stands ahead", flags)
		}
	}
}

// P12.2: each bit of the head's sum, and of what it sums, is turned.
func TestHeadSum(t *testing.T) {
	for flags := range 32 {
		if flags&flagSum == 0 {
			continue
		}
		m := full(flags)
		for bit := range 16 {
			m.turn = 1 << bit
			checkOpen(t, m.text(), 1, "", api.ErrSum)
		}
		m.turn = 0xffff
		checkOpen(t, m.text(), 1, "", api.ErrSum)
		m.turn = 0
		whole := []byte(m.text())
		for bit := 4 * 8; bit < 10*8; bit++ {
			whole[bit/8] ^= 1 << (bit % 8)
			checkOpen(t, string(whole), 1, "", api.ErrSum)
			whole[bit/8] ^= 1 << (bit % 8)
		}
		for part, other := range map[string]string{"tra": "tre", "name": "Name", "remark\x00": "remarks\x00", "\x06\x00ex": "\x07\x00exe"} {
			if b := strings.Replace(string(whole), part, other, 1); b != string(whole) {
				checkOpen(t, b, 1, "", api.ErrSum)
			}
		}
		whole[3] ^= flagText
		checkOpen(t, string(whole), 1, "", api.ErrSum)
	}
	// The upper half of the sum is none.
	s := "\x1f\x8b\x08\x02\x00\x00\x00\x00\x00\xff"
	checkOpen(t, s+bytesOf(sumOf(s)>>16, 2)+"\x4b\x04\x00"+seal("a"), 1, "", api.ErrSum)
	checkOpen(t, s+bytesOf(sumOf(s)>>8, 1)+bytesOf(sumOf(s), 1)+"\x4b\x04\x00"+seal("a"), 1, "", api.ErrSum)
	checkOpen(t, s+bytesOf(sumOf(s), 2)+"\x4b\x04\x00"+seal("a"), 1, "a", api.OK)
}

// P12.2: of several faults the first one that is met is told.
func TestFirstFault(t *testing.T) {
	sealed := func(flags, turn int, packed, end string) string {
		m := full(flags)
		m.turn, m.packed, m.end = turn, packed, end
		return m.text()
	}
	const a, wrong = "\x4b\x04\x00", "\x07"
	for _, c := range []struct {
		b    string
		most int
		e    api.Errno
	}{
		{sealed(2, 1, wrong, seal("")), 1, api.ErrSum}, {sealed(2, 1, "", ""), 1, api.ErrSum}, {sealed(31, 1, a, seal("a")), 0, api.ErrSum},
		{sealed(2, 1, a, ""), 1, api.ErrSum}, {sealed(2, 1, a, seal("a")+"x"), 1, api.ErrSum}, {sealed(2, 1, a, seal("b")), 1, api.ErrSum},
		{sealed(34, 1, a, seal("a")), 1, api.ErrForm}, {"\x1e" + sealed(2, 1, a, seal("a"))[1:], 1, api.ErrForm},
		{sealed(2, 0, wrong, seal("")), 1, api.ErrForm}, {sealed(0, 0, wrong, seal("")), 0, api.ErrForm}, {sealed(0, 0, "", ""), 0, api.ErrForm},
		{sealed(2, 0, a, seal("a")), 0, api.ErrLong}, {sealed(0, 0, a, seal("a")), 0, api.ErrLong}, {sealed(0, 0, a, ""), 0, api.ErrLong},
		{sealed(0, 0, a, seal("b")), 0, api.ErrLong}, {sealed(0, 0, a, seal("a")+"x"), 0, api.ErrLong}, {sealed(0, 0, "\x4b", ""), 0, api.ErrForm},
		// A stored block of five bytes that ends behind two of them.
		{sealed(0, 0, "\x01\x05\x00\xfa\xffab", ""), 1, api.ErrLong}, {sealed(0, 0, "\x01\x05\x00\xfa\xffab", ""), 2, api.ErrForm}, {sealed(0, 0, "\x01\x05\x00\xfa\xfeab", ""), 0, api.ErrForm},
		{sealed(0, 0, a, "")[:10], 0, api.ErrForm}, {sealed(0, 0, a, "\x00\x00\x00\x00\x00\x00\x00"), 1, api.ErrForm}, {sealed(0, 0, a, "\x00\x00\x00\x00\x00\x00\x00\x00"), 1, api.ErrSum},
	} {
		checkOpen(t, c.b, c.most, "", c.e)
	}
}

// P12.2, P12.3: each bit of the sum and of the length is turned; or they are those of another text, or stand otherwise.
func TestSeal(t *testing.T) {
	t.Parallel()
	for _, s := range someTexts() {
		s = s[:min(len(s), 1000)]
		packed := gz.Pack(s)
		b := []byte(packed)
		end := len(b) - 8
		for bit := range 64 {
			b[end+bit/8] ^= 1 << (bit % 8)
			checkOpen(t, string(b), api.MaxOut, "", api.ErrSum)
			b[end+bit/8] ^= 1 << (bit % 8)
		}
		sum, size := packed[end:end+4], packed[end+4:]
		for _, other := range []string{seal(s + "x"), seal("x" + s), sum + bytesOf(len(s)+1, 4), bytesOf(sumOf(s+"x"), 4) + size, bytesOf(^sumOf(s)&0xffffffff, 4) + size} {
			checkOpen(t, packed[:end]+other, api.MaxOut, "", api.ErrSum)
		}
		if s != "" {
			checkOpen(t, packed[:end]+size+sum, api.MaxOut, "", api.ErrSum)
			checkOpen(t, packed[:end]+sum+"\x00\x00\x00\x00", api.MaxOut, "", api.ErrSum)
		}
	}
}

// P12.2: anything that stands behind the eight bytes, or fewer of them.
func TestNothingMore(t *testing.T) {
	t.Parallel()
	for _, s := range someTexts() {
		s = s[:min(len(s), 1000)]
		packed := gz.Pack(s)
		for _, more := range []string{"\x00", "x", "\x1f", seal(s), gz.Pack(""), packed, strings.Repeat("\x00", 512)} {
			checkOpen(t, packed+more, api.MaxOut, "", api.ErrForm)
		}
		end := len(packed) - 8
		checkOpen(t, packed[:end], api.MaxOut, "", api.ErrForm)
		checkOpen(t, packed[:end+4], api.MaxOut, "", api.ErrForm)
		checkOpen(t, packed[:end]+packed[end+1:], api.MaxOut, "", api.ErrForm)
	}
}

// P12.2: members that Go's own library makes.
func TestOpenLibrary(t *testing.T) {
	t.Parallel()
	for i, s := range someTexts() {
		for _, level := range []int{gzip.NoCompression, gzip.BestSpeed, gzip.DefaultCompression, gzip.BestCompression, gzip.HuffmanOnly} {
			var b bytes.Buffer
			w, err := gzip.NewWriterLevel(&b, level)
			if err != nil {
				t.Fatal(err)
			}
			if i%2 == 1 {
				w.Header = gzip.Header{Name: "a.der", Comment: "of stage 12", Extra: []byte(s[:min(i, len(s))]), ModTime: time.Unix(int64(i)<<20, 0), OS: byte(i)}
			}
			if _, err := io.WriteString(w, s); err != nil {
				t.Fatal(err)
			}
			if err := w.Close(); err != nil {
				t.Fatal(err)
			}
			checkRight(t, b.String(), s)
		}
	}
}

// P12.2: members in which a bit is turned, or some bytes are others, or fewer, or more, in the chapter's words.
func TestOpenTurned(t *testing.T) {
	t.Parallel()
	counts := map[api.Errno]int{}
	check := func(b string) {
		for _, most := range []int{api.MaxOut, 12, 0} {
			counts[checkWords(t, b, most)]++
		}
	}
	for flags := range 32 {
		for i, s := range []string{"", "a", "a precertificate, a certificate", sample.Text(12, 1)} {
			m := full(flags)
			m.packed, m.end = handPacked(s), seal(s)
			whole := m.text()
			behind := len(whole) - 8
			b := []byte(whole)
			for bit := range 8 * len(b) {
				b[bit/8] ^= 1 << (bit % 8)
				check(string(b))
				b[bit/8] ^= 1 << (bit % 8)
			}
			for at := range behind {
				check(whole[:at] + whole[at+1:])
				check(whole[:at] + sample.Text(2, 9*at+i) + whole[at+2:])
			}
			for at := range len(m.ahead()) {
				check(whole[:at] + sample.Text(2, 9*at+i) + whole[at:])
			}
		}
	}
	for _, e := range []api.Errno{api.OK, api.ErrForm, api.ErrSum, api.ErrLong} {
		if counts[e] < 500 {
			t.Errorf("so many of each: %v", counts)
		}
	}
}

// P12.2: any bytes, behind some beginnings.
func TestOpenAny(t *testing.T) {
	begin := full(0).text()[:3]
	for i := range 20000 {
		b := sample.Text(i%60, i)
		for _, s := range []string{b, begin + b, begin + "\x00" + b, begin + bytesOf(i%32, 1) + b} {
			checkWords(t, s, 1000)
		}
	}
}

// P12.3: what was packed is opened, up to as long as may be, and not if it is longer.
func TestPackedIsOpened(t *testing.T) {
	t.Parallel()
	for _, s := range someTexts() {
		checkRight(t, gz.Pack(s), s)
	}
	for i := range 256 {
		checkRight(t, gz.Pack(bytesOf(i, 1)), bytesOf(i, 1))
	}
	for _, s := range []string{sample.Text(api.MaxOut, 1), strings.Repeat("certificate ", api.MaxOut)[:api.MaxOut]} {
		checkRight(t, gz.Pack(s), s)
		checkOpen(t, gz.Pack(s+"x"), api.MaxOut, "", api.ErrLong)
	}
}

// P3: a text is neither written into nor kept, and what is answered is no part of it.
func TestTextsAreNotKept(t *testing.T) {
	m := full(31)
	m.packed, m.end = byhand.Text(byhand.Stored("", "100", "0", "stored")), seal("stored")
	whole := m.text() + "more"
	memory := []byte(whole)
	s, e := gz.Open(unsafe.String(&memory[0], len(memory)-4), 6)
	if string(memory) != whole {
		t.Error("Open has written")
	}
	clear(memory)
	if s != "stored" || e != api.OK {
		t.Errorf("got %s, %d", inHex(s), e)
	}
	memory = []byte("a text, of some bytes" + "more")
	packed := gz.Pack(unsafe.String(&memory[0], 21))
	if string(memory) != "a text, of some bytes"+"more" {
		t.Error("Pack has written")
	}
	clear(memory)
	checkRight(t, packed, "a text, of some bytes")
	if other := gz.Pack("a text, of some bytes"); unsafe.StringData(other) == unsafe.StringData(packed) {
		t.Error("two answers share memory")
	}
}

// P4: what others ask at the same time is not to be seen.
func TestAtOneTime(t *testing.T) {
	var wait sync.WaitGroup
	for i := range 8 {
		wait.Go(func() {
			for j := range 60 {
				s := sample.Text(j, i)
				checkRight(t, gz.Pack(s), s)
				m := full((i + j) % 32)
				checkOpen(t, m.text(), 1, "a", api.OK)
				m.turn = 1
				if m.flags&flagSum != 0 {
					checkOpen(t, m.text(), 1, "", api.ErrSum)
				}
			}
		})
	}
	wait.Wait()
}
