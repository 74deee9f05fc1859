package b64

import (
	"encoding/base64"
	"encoding/hex"
	"iter"
	"math"
	"math/big"
	"slices"
	"strconv"
	"strings"
	"sync"
	"testing"
	"unsafe"

	"engrosser/sample"
)

// library64 answers base 64 of s, and libraryRead64 the text of s, as Go's own library says. That one passes over ends of lines, so that it is asked the other way, too.
func library64(s string) string { return base64.StdEncoding.EncodeToString([]byte(s)) }

func libraryRead64(s string) (string, bool) {
	b, err := base64.StdEncoding.DecodeString(s)
	if err != nil || library64(string(b)) != s {
		return "", false
	}
	return string(b), true
}

// libraryReadHex answers likewise what s says in hex; that one takes great letters.
func libraryReadHex(s string) (string, bool) {
	b, err := hex.DecodeString(s)
	if err != nil || hex.EncodeToString(b) != s {
		return "", false
	}
	return string(b), true
}

// check64 holds Decode of s against the library, and tells whether it is base 64; checkHex does so with Unhex.
func check64(t *testing.T, s string) bool {
	t.Helper()
	want, right := libraryRead64(s)
	if got, ok := Decode(s); got != want || ok != right {
		t.Errorf("Decode(%q): got %q, %v, not %q, %v", s, got, ok, want, right)
	}
	return right
}

func checkHex(t *testing.T, s string) bool {
	t.Helper()
	want, right := libraryReadHex(s)
	if got, ok := Unhex(s); got != want || ok != right {
		t.Errorf("Unhex(%q): got %q, %v, not %q, %v", s, got, ok, want, right)
	}
	return right
}

// shortTexts hands each text of up to two bytes to use, and many of three.
func shortTexts(use func(string)) {
	use("")
	for i := range 256 {
		use(string([]byte{byte(i)}))
		for j := range 256 {
			use(string([]byte{byte(i), byte(j)}))
			use(string([]byte{byte(i), byte(j), byte(i*7 + j*13)}))
		}
	}
}

// P7.1: the chapter's example, and those of RFC 4648.
func TestEncodeKnown(t *testing.T) {
	for _, c := range []struct{ text, code string }{
		{"ab", "YWI="}, {"", ""}, {"f", "Zg=="}, {"fo", "Zm8="}, {"foo", "Zm9v"}, {"foob", "Zm9vYg=="}, {"fooba", "Zm9vYmE="}, {"foobar", "Zm9vYmFy"},
		{"\x00", "AA=="}, {"\x00\x00\x00", "AAAA"}, {"\xff\xff\xff", "////"}, {"\xfb\xef\xbe", "++++"}, {"\xff\xef\xbe", "/+++"},
	} {
		if got := Encode(c.text); got != c.code {
			t.Errorf("Encode(%q): got %q", c.text, got)
		}
		if got, ok := Decode(c.code); got != c.text || !ok {
			t.Errorf("Decode(%q): got %q, %v", c.code, got, ok)
		}
	}
}

// P7.1, P7.3: each digit at each of the four places, in one text or another.
func TestEncodeShort(t *testing.T) {
	shortTexts(func(s string) {
		code := Encode(s)
		if code != library64(s) {
			t.Errorf("Encode(%x): got %q", s, code)
		}
		if got, ok := Decode(code); got != s || !ok {
			t.Errorf("Decode(%q): got %x, %v", code, got, ok)
		}
	})
}

// P7.1, P7.3: texts of every length, and a long one.
func TestEncodeLengths(t *testing.T) {
	for _, s := range longTexts() {
		code := Encode(s)
		if code != library64(s) {
			t.Errorf("Encode of %d bytes: got %q", len(s), code)
		}
		if got, ok := Decode(code); got != s || !ok {
			t.Errorf("Decode of %d bytes: got %x, %v", len(s), got, ok)
		}
	}
}

// longTexts answers texts of every length, of bytes of all kinds.
func longTexts() []string {
	all := []string{sample.Text(1<<20, 1), strings.Repeat("äöü€", 100), "\xef\xbf\xbd\x80\xff"}
	for n := range 300 {
		all = append(all, sample.Text(n, 0), strings.Repeat("\x00", n), strings.Repeat("\xff", n))
	}
	return all
}

// P7.1: every text of up to eight bytes out of a few, or of up to five out of some more: digits whose lower bits are 0 or not, what fills up, and what is no digit.
func TestDecodeSmallTexts(t *testing.T) {
	for _, letters := range []string{"AQgBv/+=", "Zw=", "AQ=\n", "Ag=\xff"} {
		longest := 8
		if len(letters) > 4 {
			longest = 5
		}
		right := 0
		all := []string{""}
		for n := range longest + 1 {
			var longer []string
			for _, s := range all {
				if check64(t, s) {
					right++
				}
				for i := range len(letters) {
					if n < longest {
						longer = append(longer, s+letters[i:i+1])
					}
				}
			}
			all = longer
		}
		if right < 5 {
			t.Errorf("just %d are base 64", right)
		}
	}
}

// P7.1: each byte at each place of what Encode answered.
func TestDecodeBytes(t *testing.T) {
	right, wrong := 0, 0
	for n := range 13 {
		code := Encode(sample.Text(n, 2))
		for at := range code {
			for b := range 256 {
				if check64(t, code[:at]+string([]byte{byte(b)})+code[at+1:]) {
					right++
				} else {
					wrong++
				}
			}
		}
	}
	if right < 1000 || wrong < 1000 {
		t.Errorf("%d are base 64, %d are not", right, wrong)
	}
}

// P7.1: what Encode answered, with something ahead, behind or inside, or with something taken away, is Encode of another text, or of none.
func TestDecodeLengths(t *testing.T) {
	for n := range 13 {
		code := Encode(sample.Text(n, 3))
		for at := range len(code) + 1 {
			check64(t, code[:at])
			check64(t, code[at:])
			for _, more := range []string{"=", "==", "===", "====", "A", "AA", "AAA", "AAA=", "AA==", "A===", "AAAA", " ", "\n", "\r\n", "    ", "\x00", "\x00\x00\x00\x00", "-", "_", "\xff\xff\xff\xff", "é", "\U0001f600"} {
				check64(t, code[:at]+more+code[at:])
			}
		}
	}
}

// P7.1: wrong texts, one by one.
func TestDecodeWrong(t *testing.T) {
	for _, s := range []string{
		"Z", "Zg", "Zg=", "Zg===", "Zm8", "Zm8==", "Zm9v=", "Zm9v==", "Zm9v====", "=", "==", "===", "====", "A===", "========", // lengths
		"Zh==", "Zi==", "Zk==", "Zo==", "Zv==", "Zx==", "Z/==", "Zm9=", "Zm+=", "Zm/=", "AB==", "AAB=", "AAC=", // bits behind the last byte
		"Zg==Zg==", "Zg==Zm9v", "Zm8=Zm9v", "=Zm8", "Z=g=", "Zg=A", "Z===", // something behind what fills up
		"Zm-v", "Zm_v", "Zm v", " Zm9v", "Zm9v ", "Zg==\n", "Zg\n==", "Zm9v\n", "\nZm9v", "Zm9v\r\n", "Zm\n9v", "Zm9\x00", "Zm.v", "Zm,v", "Zm@v", "Zm[v", "Zm`v", "Zm{v", "Zm:v", // what is no digit
		"\xff\xff\xff\xff", "Zm\xc3\xa9", "Zm9\xff", "Z\xf0\x9f\x98\x80m9", "\xef\xbf\xbdA",
		"ŁŁ", "ŚAA", "Ａ9", "AAAŁAA9", // runes whose lowest byte is a digit's, or that look like one
	} {
		if got, ok := Decode(s); got != "" || ok {
			t.Errorf("Decode(%q): got %q, %v", s, got, ok)
		}
	}
}

// someNumbers answers numbers from 0 on: small ones, and about powers of 2 and of 10.
func someNumbers() []int {
	all := []int{math.MaxInt}
	for n := range 1100 {
		all = append(all, n)
	}
	for i := range 63 {
		all = append(all, 1<<i, 1<<i-1, 1<<i+1, 1<<i+1<<(i/2))
	}
	for p := 1; p <= math.MaxInt/10; p *= 10 {
		for d := range 9 {
			all = append(all, (d+1)*p, (d+1)*p-1, (d+1)*p+1, p*10-d)
		}
	}
	for i := range 200 {
		all = append(all, int(uint64(math.MaxUint64)/uint64(i*i+2)))
	}
	return all
}

// P7.2, P7.3: digits of all numbers; those above 2^62 are written, and not read.
func TestNumber(t *testing.T) {
	for _, n := range someNumbers() {
		s, ok := Number(n)
		if s != strconv.Itoa(n) || !ok {
			t.Errorf("Number(%d): got %q, %v", n, s, ok)
		}
		want := n
		if n > 1<<62 {
			want = 0
		}
		if got, ok := TakeNumber(s); got != want || ok != (n <= 1<<62) {
			t.Errorf("TakeNumber(%q): got %d, %v", s, got, ok)
		}
	}
}

// P7.2: no number is below 0.
func TestNumberBelow(t *testing.T) {
	for _, n := range append(someNumbers(), math.MaxInt-1) {
		for _, n := range []int{-n, -n - 1} {
			if n == 0 {
				continue
			}
			if s, ok := Number(n); s != "" || ok {
				t.Errorf("Number(%d): got %q, %v", n, s, ok)
			}
			if got, ok := TakeNumber(strconv.Itoa(n)); got != 0 || ok {
				t.Errorf("TakeNumber(%d): got %d, %v", n, got, ok)
			}
		}
	}
}

// P7.2: all about 2^62, and about what comes there once it has wrapped, in 63 bits, in 64 or in more.
func TestTakeNumberGreat(t *testing.T) {
	greatest := new(big.Int).Lsh(big.NewInt(1), 62)
	for _, bits := range []uint{62, 63, 64, 65, 66, 67, 68, 72, 80, 96, 128, 256} {
		for times := range int64(12) {
			for more := range int64(25) {
				n := new(big.Int).Lsh(big.NewInt(times+1), bits)
				n.Add(n, big.NewInt(more-12))
				want, right := 0, n.Cmp(greatest) <= 0
				if right {
					want = int(n.Int64())
				}
				if got, ok := TakeNumber(n.String()); got != want || ok != right {
					t.Errorf("TakeNumber(%s): got %d, %v", n, got, ok)
				}
			}
		}
	}
	for n := range 60 {
		for _, digit := range []string{"1", "4", "9"} {
			s := digit + strings.Repeat("0", n)
			want, err := strconv.ParseInt(s, 10, 64)
			right := err == nil && want <= 1<<62
			if got, ok := TakeNumber(s); ok != right || right && got != int(want) || !right && got != 0 {
				t.Errorf("TakeNumber(%s): got %d, %v", s, got, ok)
			}
		}
	}
}

// P7.2: wrong texts, one by one.
func TestTakeNumberWrong(t *testing.T) {
	for _, s := range []string{
		"", "00", "01", "007", "0000000000000000000000", "04611686018427387904", // a 0 ahead
		"-1", "+1", "-0", "+0", "-", "+", // signs
		" ", " 1", "1 ", "1 1", "\n1", "1\n", "1\x00", "\x001", "\x00", "0 ", "0\x00",
		"1_0", "1,0", "1.0", "1.", ".1", "1e3", "0x10", "0b1", "0o7", "a", "f", "1a", "/", ":", "1/", "1:", "0:", "/1",
		"4611686018427387905", "4611686018427387910", "4611686018427387994", "9223372036854775807", "9223372036854775808", "18446744073709551615", "18446744073709551616", "18446744073709551623", "99999999999999999999",
		"\xff", "1\xff", "\xb1", "\xef\xbf\xbd", "٣", "１", "1１", "ıı", "б", "İ", "1İ", "¹", "½",
	} {
		if n, ok := TakeNumber(s); n != 0 || ok {
			t.Errorf("TakeNumber(%q): got %d, %v", s, n, ok)
		}
	}
}

// P7.2: each text of up to two bytes, and each byte at each place of a number.
func TestTakeNumberBytes(t *testing.T) {
	all := []string{}
	shortTexts(func(s string) { all = append(all, s) })
	for _, s := range []string{"10", "907", "4611686018427387904", "999999999999999999"} {
		for at := range s {
			for b := range 256 {
				all = append(all, s[:at]+string([]byte{byte(b)})+s[at+1:], s[:at]+string([]byte{byte(b)})+s[at:])
			}
		}
	}
	count := 0
	for _, s := range all {
		want, err := strconv.Atoi(s)
		right := err == nil && strconv.Itoa(want) == s && want >= 0 && want <= 1<<62
		if right {
			count++
		} else {
			want = 0
		}
		if got, ok := TakeNumber(s); got != want || ok != right {
			t.Errorf("TakeNumber(%q): got %d, %v", s, got, ok)
		}
	}
	if count < 300 {
		t.Errorf("just %d are numbers", count)
	}
}

// P7.2, P7.3: hex of texts of all kinds.
func TestHex(t *testing.T) {
	if got := Hex("\x00\x09\xa9z\xff"); got != "0009a97aff" {
		t.Errorf("got %q", got)
	}
	all := longTexts()
	shortTexts(func(s string) { all = append(all, s) })
	for _, s := range all {
		digits := Hex(s)
		if digits != hex.EncodeToString([]byte(s)) {
			t.Errorf("Hex of %d bytes: got %q", len(s), digits)
		}
		if got, ok := Unhex(digits); got != s || !ok {
			t.Errorf("Unhex of %d bytes: got %x, %v", len(s), got, ok)
		}
	}
}

// P7.2: each text of up to two bytes, many of three, each byte at each place of four digits, and something ahead, behind or inside.
func TestUnhexBytes(t *testing.T) {
	all := []string{}
	shortTexts(func(s string) { all = append(all, s) })
	for at := range 4 {
		for b := range 256 {
			all = append(all, "07af"[:at]+string([]byte{byte(b)})+"07af"[at+1:])
		}
	}
	for at := range 5 {
		for _, more := range []string{"0", "00", "f", "0x", " ", "  ", "\n", "\x00\x00", "é", "\xff\xff", "=", "=="} {
			all = append(all, "07af"[:at]+more+"07af"[at:])
		}
	}
	count := 0
	for _, s := range all {
		if checkHex(t, s) {
			count++
		}
	}
	if count < 256 {
		t.Errorf("just %d are hex", count)
	}
}

// P7.2: wrong texts, one by one.
func TestUnhexWrong(t *testing.T) {
	for _, s := range []string{
		"0", "f", "00a", "000", "0000000", // half a byte
		"AA", "aA", "Aa", "FF", "0F", "F0", "00A97A", // great letters
		"0g", "g0", "0/", "0:", "0`", "0@", "0 ", " 0", "0\n", "-1", "+1", "0x", "0x00", "00 00 ", "00:00:", "zz", "\x00\x00", "=0",
		"\xff\xff", "0\xff", "\xc3\xa9", "é0f", "\xef\xbf\xbd0", "š", "İ", "ı0f", "ａ0", "１0", "٣",
	} {
		if got, ok := Unhex(s); got != "" || ok {
			t.Errorf("Unhex(%q): got %q, %v", s, got, ok)
		}
	}
}

// first answers the first n of groups, or all, if there are fewer.
func first(n int, groups iter.Seq[uint]) []uint {
	var got []uint
	for group := range groups {
		if got = append(got, group); len(got) == n {
			break
		}
	}
	return got
}

// The bits are handed on in groups of any width, just as far as they are asked for.
func TestRegrouped(t *testing.T) {
	for _, c := range []struct {
		to  int
		all []uint
	}{
		{1, []uint{1, 1, 1, 1, 0, 0, 0, 0, 1, 0, 1, 0, 0, 1, 0, 1}}, {4, []uint{15, 0, 10, 5}}, {5, []uint{30, 2, 18, 16}}, {6, []uint{60, 10, 20}}, {8, []uint{0xf0, 0xa5}}, {16, []uint{0xf0a5}}, {17, []uint{0xf0a5 << 1}},
	} {
		for n := range c.all {
			if got := first(n+1, regrouped(bytesOf("\xf0\xa5"), 8, c.to)); !slices.Equal(got, c.all[:n+1]) {
				t.Errorf("%d bits each, the first %d: got %x", c.to, n+1, got)
			}
		}
		if got := first(100, regrouped(bytesOf("\xf0\xa5"), 8, c.to)); !slices.Equal(got, c.all) {
			t.Errorf("%d bits each: got %x", c.to, got)
		}
	}
	for n := range 3 {
		if got := first(n+1, placesOf("abc").values("cab")); !slices.Equal(got, []uint{2, 0, 1}[:n+1]) {
			t.Errorf("the first %d values: got %x", n+1, got)
		}
	}
}

// P3: what is handed in is not written into, nor what stands behind it, nor kept; each answer is new memory.
func TestTextsAreNotKept(t *testing.T) {
	whole := "a text, of some bytes" + "YSB0ZXh0" + "6120" + "1234567" + "more"
	memory := []byte(whole)
	at := func(from, size int) string { return unsafe.String(&memory[from], size) }
	code, digits := Encode(at(0, 21)), Hex(at(0, 21))
	one, ok1 := Decode(at(21, 8))
	two, ok2 := Unhex(at(29, 4))
	n, ok3 := TakeNumber(at(33, 7))
	again, ok4 := Decode(at(21, 8))
	if string(memory) != whole {
		t.Error("written into")
	}
	clear(memory)
	if code != library64(whole[:21]) || digits != hex.EncodeToString([]byte(whole[:21])) || one != "a text" || two != "a " || n != 1234567 || again != one || !ok1 || !ok2 || !ok3 || !ok4 {
		t.Error("kept")
	}
	if unsafe.StringData(one) == unsafe.StringData(again) {
		t.Error("two answers share memory")
	}
}

// P4: what others ask at the same time is not to be seen.
func TestAtOneTime(t *testing.T) {
	var wait sync.WaitGroup
	for i := range 8 {
		wait.Go(func() {
			for j := range 100 {
				s := sample.Text(j, i)
				one, ok1 := Decode(Encode(s))
				two, ok2 := Unhex(Hex(s))
				digits, _ := Number(i * j)
				n, ok3 := TakeNumber(digits)
				if one != s || two != s || n != i*j || !ok1 || !ok2 || !ok3 {
					t.Errorf("%x: got %x, %x, %d", s, one, two, n)
				}
			}
		})
	}
	wait.Wait()
}
