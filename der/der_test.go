package der_test

import (
	"encoding/asn1"
	"math"
	"slices"
	"strings"
	"testing"

	"engrosser/api"
	"engrosser/der"
	"engrosser/sample"
)

// someLengths are about each edge of how many bytes tell them.
var someLengths = []int{0, 1, 2, 31, 126, 127, 128, 129, 200, 254, 255, 256, 257, 511, 512, 1000, 2000, 32767, 32768, 65534, 65535, 65536, 65537, 1 << 20}

// longest is the longest text of an item.
const longest = 1<<24 - 1

// wrongTags are no tags of an item.
var wrongTags = []int{-1, -2, -0x30, -256, -256 + 0x30, math.MinInt, math.MinInt + 0x30, 256, 256 + 0x30, 511, 1 << 16, 1<<32 + 0x30, 1<<62 + 4, math.MaxInt, 0x1f, 0x3f, 0x5f, 0x7f, 0x9f, 0xbf, 0xdf, 0xff}

// rightTags answers all tags of an item.
func rightTags() (all []int) {
	for tag := range 256 {
		if tag%32 != 31 {
			all = append(all, tag)
		}
	}
	return all
}

func checkNext(t *testing.T, s string, want der.Item, e api.Errno) {
	t.Helper()
	if got, f := der.Next(s); got != want || f != e {
		t.Errorf("Next(%s): got %x, %s, %s, %d, not %x, %s, %s, %d", short(s), got.Tag, short(got.Text), short(got.Rest), f, want.Tag, short(want.Text), short(want.Rest), e)
	}
}

// checkNone: s does not begin with an item.
func checkNone(t *testing.T, s string) {
	t.Helper()
	checkNext(t, s, der.Item{}, api.ErrForm)
}

func checkWrap(t *testing.T, tag int, text, want string, e api.Errno) {
	t.Helper()
	if got, f := der.Wrap(tag, text); got != want || f != e {
		t.Errorf("Wrap(%x, %s): got %s, %d, not %s, %d", tag, short(text), short(got), f, short(want), e)
	}
}

// texts answers what the items say.
func texts(all []der.Item) (told []string) {
	for _, x := range all {
		told = append(told, short(x.Text))
	}
	return told
}

func checkParts(t *testing.T, s string, want []der.Item, e api.Errno) {
	t.Helper()
	if got, f := der.Parts(s); !slices.Equal(got, want) || f != e {
		t.Errorf("Parts(%s): got %d items, %d, not %d, %d: %v", short(s), len(got), f, len(want), e, texts(got))
	}
}

// P14.1: items that are known.
func TestNextKnown(t *testing.T) {
	long := sample.Text(300, 1)
	for _, c := range []struct {
		s    string
		want der.Item
	}{
		{"\x30\x02ab", der.Item{Tag: 0x30, Text: "ab"}}, {"\x30\x02abc", der.Item{Tag: 0x30, Text: "ab", Rest: "c"}}, {"\x30\x00", der.Item{Tag: 0x30}}, {"\x00\x00", der.Item{}}, {"\x00\x00\x00", der.Item{Rest: "\x00"}},
		{"\xfe\x01\xff", der.Item{Tag: 0xfe, Text: "\xff"}}, {"\x1e\x01\x00\x1f", der.Item{Tag: 0x1e, Text: "\x00", Rest: "\x1f"}}, {"\x20\x00\xff", der.Item{Tag: 0x20, Rest: "\xff"}},
		{"\x04\x7f" + long, der.Item{Tag: 4, Text: long[:127], Rest: long[127:]}}, {"\x04\x81\x80" + long, der.Item{Tag: 4, Text: long[:128], Rest: long[128:]}},
		{"\x04\x81\xff" + long, der.Item{Tag: 4, Text: long[:255], Rest: long[255:]}}, {"\x04\x82\x01\x00" + long, der.Item{Tag: 4, Text: long[:256], Rest: long[256:]}}, {"\x04\x82\x01\x2c" + long, der.Item{Tag: 4, Text: long}},
	} {
		checkNext(t, c.s, c.want, api.OK)
	}
}

// P14.1: what begins with no item.
func TestNextNone(t *testing.T) {
	some := sample.Text(70000, 2)
	for _, s := range []string{"", "\x30", "\x30\x01", "\x30\x02a", "\x30\x7f" + some[:126], "\x30\x81", "\x30\x81\x80" + some[:127], "\x30\x82", "\x30\x82\x01", "\x30\x82\x01\x00" + some[:255], "\x30\x83\x01\x00", "\x30\x83\x01\x00\x00" + some[:65535], "\x30\x83\xff\xff\xff" + some} {
		checkNone(t, s)
	}
	// No length, and lengths of other bytes than the fewest, and of more than three.
	for _, head := range []string{"\x80", "\x81\x00", "\x81\x01", "\x81\x7f", "\x82\x00\x00", "\x82\x00\x01", "\x82\x00\x7f", "\x82\x00\x80", "\x82\x00\xff", "\x83\x00\x00\x00", "\x83\x00\x00\x80", "\x83\x00\x01\x00", "\x83\x00\xff\xff", "\x84\x00\x00\x00\x01", "\x84\x00\x01\x00\x00", "\x84\x01\x00\x00\x00", "\x85\x00\x00\x00\x00\x01", "\x88\x00\x00\x00\x00\x00\x00\x00\x01", "\x88\xff\xff\xff\xff\xff\xff\xff\xff", "\x89\x01\x00\x00\x00\x00\x00\x00\x00\x00", "\xff\xff", "\xff"} {
		checkNone(t, "\x30"+head)
		checkNone(t, "\x30"+head+some)
	}
	for first := 0x84; first <= 0xff; first++ {
		for _, next := range []string{"", "\x00", "\x01", strings.Repeat("\x00", 127) + "\x01"} {
			checkNone(t, "\x30"+string([]byte{byte(first)})+next+some)
		}
	}
}

// P14.1: all tags, those of which the lower five bits are all 1 refused.
func TestTags(t *testing.T) {
	for tag := range 256 {
		one := string([]byte{byte(tag)}) + "\x03abc"
		if slices.Contains(rightTags(), tag) {
			checkNext(t, one+"rest", der.Item{Tag: tag, Text: "abc", Rest: "rest"}, api.OK)
			checkParts(t, one, []der.Item{{Tag: tag, Text: "abc"}}, api.OK)
			checkWrap(t, tag, "abc", one, api.OK)
			continue
		}
		checkNone(t, one)
		checkParts(t, one, nil, api.ErrForm)
		checkParts(t, "\x04\x00"+one, nil, api.ErrForm)
	}
	if len(rightTags()) != 248 {
		t.Errorf("%d tags", len(rightTags()))
	}
}

// P14.1, P6: a tag that is none is told as such, also of a text that is too long.
func TestWrongTags(t *testing.T) {
	long := strings.Repeat("a", longest+1)
	for _, tag := range wrongTags {
		for _, text := range []string{"", "a", long[:128], long[:1<<16], long} {
			checkWrap(t, tag, text, "", api.ErrArg)
		}
	}
}

// P14.1: items that are known, wrapped.
func TestWrapKnown(t *testing.T) {
	for _, c := range []struct {
		tag  int
		n    int
		head string
	}{
		{0x30, 0, "\x30\x00"}, {0, 1, "\x00\x01"}, {0xfe, 127, "\xfe\x7f"}, {4, 128, "\x04\x81\x80"}, {4, 255, "\x04\x81\xff"}, {4, 256, "\x04\x82\x01\x00"}, {4, 1000, "\x04\x82\x03\xe8"}, {4, 65535, "\x04\x82\xff\xff"}, {4, 65536, "\x04\x83\x01\x00\x00"}, {4, 66051, "\x04\x83\x01\x02\x03"}, {4, longest, "\x04\x83\xff\xff\xff"},
	} {
		text := sample.Text(c.n, 3)
		checkWrap(t, c.tag, text, c.head+text, api.OK)
	}
	checkWrap(t, 0x30, "ab", "\x30\x02ab", api.OK)
}

// P14.1: the longest text, and one of a byte more, and of many more.
func TestWrapLong(t *testing.T) {
	long := strings.Repeat("a", 3*longest)
	for _, n := range []int{longest - 1, longest} {
		checkWrap(t, 4, long[:n], item(4, long[:n]), api.OK)
	}
	for _, n := range []int{longest + 1, longest + 2, 2 * longest, 3 * longest} {
		checkWrap(t, 4, long[:n], "", api.ErrLong)
	}
}

// P14.1, P14.4: what is wrapped is read as it was, with anything behind it; with a byte less it is no item.
func TestWrappedIsRead(t *testing.T) {
	for _, n := range append(someLengths, longest) {
		text := sample.Text(n, 4)
		s, e := der.Wrap(0x24, text)
		if e != api.OK {
			t.Errorf("%d bytes: got %d", n, e)
		}
		checkNext(t, s, der.Item{Tag: 0x24, Text: text}, api.OK)
		checkNext(t, s+"rest", der.Item{Tag: 0x24, Text: text, Rest: "rest"}, api.OK)
		checkParts(t, s, []der.Item{{Tag: 0x24, Text: text}}, api.OK)
		checkNone(t, s[:len(s)-1])
		checkParts(t, s[:len(s)-1], nil, api.ErrForm)
		checkParts(t, s+"\x04", nil, api.ErrForm)
	}
	for _, tag := range rightTags() {
		for n := range 140 {
			text := sample.Text(n, tag)
			s, e := der.Wrap(tag, text)
			if e != api.OK {
				t.Errorf("%x, %d bytes: got %d", tag, n, e)
			}
			checkNext(t, s+text, der.Item{Tag: tag, Text: text, Rest: text}, api.OK)
		}
	}
}

// P14.1: each length that is told in fewer bytes, or with other ones ahead, is none.
func TestLengthsToldOtherwise(t *testing.T) {
	for _, n := range someLengths {
		text, right := sample.Text(n, 5), lengthOf(n)
		number := string([]byte{byte(n >> 16), byte(n >> 8), byte(n)})
		for zeros := range 125 {
			all := strings.Repeat("\x00", zeros) + number
			for size := 1; size <= len(all); size++ {
				told := string([]byte{0x80 + byte(size)}) + all[len(all)-size:]
				// Cut off ahead, it may tell another one.
				if told != right && (size >= 3 || n < 1<<(8*size)) {
					checkNone(t, "\x04"+told+text)
				}
			}
			if zeros == 4 && n > 1000 {
				break
			}
		}
	}
}

// P14.1: a length of four bytes, though the text is there, and no fewer bytes would tell it.
func TestLengthOfFourBytes(t *testing.T) {
	text := strings.Repeat("\x00", 3<<24)
	for _, n := range []int{longest + 1, longest + 2, 2 << 24, 3 << 24} {
		for _, s := range []string{item(4, text[:n]), item(0x30, text[:n]) + "rest"} {
			checkNone(t, s)
			checkParts(t, s, nil, api.ErrForm)
		}
	}
}

// agrees: Next answers as Go's own library does.
func agrees(t *testing.T, s string) {
	t.Helper()
	var x asn1.RawValue
	rest, err := asn1.Unmarshal([]byte(s), &x)
	if err != nil {
		checkNone(t, s)
		return
	}
	kind := 0
	if x.IsCompound {
		kind = 0x20
	}
	checkNext(t, s, der.Item{Tag: x.Class<<6 | kind | x.Tag, Text: string(x.Bytes), Rest: string(rest)}, api.OK)
}

// P14.1: heads of all kinds, as Go's own library reads them.
func TestNextAgrees(t *testing.T) {
	some := sample.Text(70000, 6)
	for _, tag := range rightTags() {
		for first := range 256 {
			head := string([]byte{byte(tag), byte(first)})
			agrees(t, head)
			agrees(t, head+some[:300])
		}
	}
	for first := 0x80; first <= 0x83; first++ {
		for second := range 256 {
			for _, next := range []string{"", "\x00", "\x01", "\x7f", "\x80", "\xff", "\x00\x00", "\x00\x80", "\x01\x00", "\xff\xff"} {
				agrees(t, string([]byte{0x30, byte(first), byte(second)})+next+some)
			}
		}
	}
}

// P14.1: all short texts, in the chapter's words.
func TestShortTexts(t *testing.T) {
	check := func(s string) {
		want, e := wordsNext(s)
		checkNext(t, s, want, e)
		all, e := wordsParts(s)
		checkParts(t, s, all, e)
	}
	check("")
	bytes := []byte{0, 1, 2, 3, 4, 0x1e, 0x1f, 0x20, 0x30, 0x3f, 0x7f, 0x80, 0x81, 0x82, 0x83, 0x84, 0xa3, 0xfe, 0xff}
	for a := range 256 {
		check(string([]byte{byte(a)}))
		for b := range 256 {
			check(string([]byte{byte(a), byte(b)}))
		}
	}
	for _, a := range bytes {
		for _, b := range bytes {
			for _, c := range bytes {
				check(string([]byte{a, b, c}))
				for _, d := range bytes {
					check(string([]byte{a, b, c, d}))
				}
			}
		}
	}
}

// someItems answers items, and all of them in one text.
func someItems(count, seed int) (all []der.Item, s string) {
	for at := count - 1; at >= 0; at-- {
		tag := rightTags()[(at*7+seed)%248]
		text := sample.Text((at*at+seed)%300, at)
		all = append(all, der.Item{Tag: tag, Text: text, Rest: s})
		s = item(tag, text) + s
	}
	slices.Reverse(all)
	return all, s
}

// P14.1: items one behind the other, up to as many as may be; one more, whatever stands behind it, and what is none.
func TestParts(t *testing.T) {
	none := []string{"\x04", "\x1f\x00", "\x04\x01", "\x04\x80", "\x04\x81\x01a", "x"}
	for count := range 101 {
		all, s := someItems(count, count)
		checkParts(t, s, all, api.OK)
		for _, more := range none {
			checkParts(t, s+more, nil, api.ErrForm)
		}
	}
	for _, count := range []int{101, 102, 150, 1000} {
		_, s := someItems(count, 7)
		checkParts(t, s, nil, api.ErrLong)
		for _, more := range none {
			checkParts(t, s+more, nil, api.ErrLong)
			checkParts(t, more+s, nil, api.ErrForm)
		}
		_, few := someItems(99, 8)
		checkParts(t, few+"\x3f\x00"+s, nil, api.ErrForm)
	}
	// The 101st item is none, and where it should begin there are just some bytes.
	_, s := someItems(100, 9)
	for _, more := range none {
		checkParts(t, s+more, nil, api.ErrForm)
		checkParts(t, s+"\x04\x00"+more, nil, api.ErrLong)
	}
	checkParts(t, "", nil, api.OK)
}

// P14.1: parts in the chapter's words, of texts in which one byte is another one, or that end early.
func TestPartsMany(t *testing.T) {
	met := map[api.Errno]int{}
	for seed := range 30 {
		_, s := someItems(1+seed%6, seed)
		for at := range min(len(s), 400) {
			for _, b := range []byte{s[at] + 1, s[at] - 1, 0, 0x1f, 0x80, 0x81} {
				other := s[:at] + string([]byte{b}) + s[at+1:]
				want, e := wordsParts(other)
				checkParts(t, other, want, e)
				met[e]++
			}
			want, e := wordsParts(s[:at])
			checkParts(t, s[:at], want, e)
			met[e]++
		}
	}
	if met[api.OK] < 100 || met[api.ErrForm] < 100 || len(met) != 2 {
		t.Errorf("these ends were met: %v", met)
	}
}

// P1: long texts, which are wrong at their end alone.
func TestLongTexts(t *testing.T) {
	long := strings.Repeat("\x04\x00", 1<<20)
	checkParts(t, long, nil, api.ErrLong)
	checkParts(t, item(4, long)+"\x04", nil, api.ErrForm)
	checkParts(t, item(4, long)+long[:198], append([]der.Item{{Tag: 4, Text: long, Rest: long[:198]}}, zeros(99)...), api.OK)
	checkNext(t, long, der.Item{Tag: 4, Rest: long[2:]}, api.OK)
	checkNone(t, "\x04\x83\xff\xff\xff"+long)
	// Items in items.
	s := ""
	for range 1000 {
		s = item(0x30, s)
	}
	for depth := range 1000 {
		x, e := der.Next(s)
		if e != api.OK || x.Tag != 0x30 || x.Rest != "" {
			t.Fatalf("depth %d: got %x, %d", depth, x.Tag, e)
		}
		s = x.Text
	}
	checkNone(t, s)
}

// zeros answers items of no text, one behind the other.
func zeros(count int) (all []der.Item) {
	for at := range count {
		all = append(all, der.Item{Tag: 4, Rest: strings.Repeat("\x04\x00", count-1-at)})
	}
	return all
}
