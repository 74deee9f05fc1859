package sum256

import (
	"crypto/sha256"
	"encoding/hex"
	"strings"
	"sync"
	"testing"
	"unsafe"
)

// edges are lengths about the end of a block, and of several ones: where the end of a text needs a block more, and where it does not.
var edges = []int{0, 1, 2, 3, 54, 55, 56, 57, 62, 63, 64, 65, 66, 118, 119, 120, 121, 127, 128, 129, 183, 184, 191, 192, 193, 255, 256, 257}

// sample answers a text of n bytes, in which neighbouring blocks differ.
func sample(n int) string {
	b := make([]byte, n)
	for i := range b {
		b[i] = byte(i*i>>3 + 131*i + i/64)
	}
	return string(b)
}

// want answers the sum of s as Go's own library tells it.
func want(s string) string {
	sum := sha256.Sum256([]byte(s))
	return string(sum[:])
}

func inHex(s string) string { return hex.EncodeToString([]byte(s)) }

func checkSum(t *testing.T, what string, got, wanted string) {
	t.Helper()
	if got != wanted {
		t.Errorf("%s: got %s, want %s", what, inHex(got), inHex(wanted))
	}
}

// P1.1: sums that are known from elsewhere.
func TestOneKnown(t *testing.T) {
	for _, c := range []struct{ name, text, sum string }{
		{"nothing", "", "e3b0c44298fc1c149afbf4c8996fb92427ae41e4649b934ca495991b7852b855"},
		{"abc", "abc", "ba7816bf8f01cfea414140de5dae2223b00361a396177a9cb410ff61f20015ad"},
		{"56 bytes", "abcdbcdecdefdefgefghfghighijhijkijkljklmklmnlmnomnopnopq", "248d6a61d20638b8e5c026930c3e6039a33ce45964ff2167f6ecedd419db06c1"},
		{"112 bytes", "abcdefghbcdefghicdefghijdefghijkefghijklfghijklmghijklmnhijklmnoijklmnopjklmnopqklmnopqrlmnopqrsmnopqrstnopqrstu", "cf5b16a778af8380036ce59e7b0492370b249b11e8f07a51afac45037afee9d1"},
		{"a byte 00", "\x00", "6e340b9cffb37a989ca544e6bb780a2c78901d3fb33738768511a30617afa01d"},
		{"a byte bd", "\xbd", "68325720aabd7c82f30f554b313d0570c95accbb7dc4b5aae11204c08ffe732b"},
		{"a million", strings.Repeat("a", 1000000), "cdc76e5c9914fb9281a1c7e284d73e67f1809a48a497200e046d39ccc7112cd0"},
	} {
		if got := inHex(One(c.text)); got != c.sum {
			t.Errorf("%s: got %s, want %s", c.name, got, c.sum)
		}
	}
}

// P1.1: the chapter's example.
func TestOneExample(t *testing.T) {
	if got := inHex(One("abc")); !strings.HasPrefix(got, "ba7816bf") {
		t.Errorf("got %s", got)
	}
}

// P1.1: every length over several blocks; and texts that look like the end that is put behind them.
func TestOneLengths(t *testing.T) {
	for n := range 600 {
		for _, s := range []string{sample(n), strings.Repeat("\x00", n), strings.Repeat("\x80", n), strings.Repeat("\xff", n)} {
			got := One(s)
			if len(got) != 32 {
				t.Fatalf("%d bytes: a sum of %d bytes", n, len(got))
			}
			if got != want(s) {
				t.Errorf("%d bytes of %x..: got %s, want %s", n, s[:min(n, 1)], inHex(got), inHex(want(s)))
			}
		}
	}
}

// P1.1: lengths whose number of bits needs two, three and four bytes.
func TestOneLong(t *testing.T) {
	for _, n := range []int{31, 32, 8191, 8192, 8193, 1<<21 - 1, 1 << 21, 1<<21 + 55} {
		s := sample(n)
		if One(s) != want(s) {
			t.Errorf("%d bytes: got %s", n, inHex(One(s)))
		}
	}
}

// P1.1, P1.2: a length whose number of bits needs five bytes.
func TestLongest(t *testing.T) {
	if testing.Short() {
		t.Skip("half a GiB")
	}
	const pieces = 1 << 9
	piece := sample(1 << 20)
	h, other := New(), sha256.New()
	for range pieces {
		h.Write(piece)
		other.Write([]byte(piece))
	}
	if h.Len() != pieces<<20 {
		t.Errorf("Len %d", h.Len())
	}
	checkSum(t, "half a GiB", h.Sum(), string(other.Sum(nil)))
}

// P1.1: bytes are no letters: what is no UTF-8 is summed as it is.
func TestOneBytes(t *testing.T) {
	for i := range 256 {
		s := string([]byte{byte(i), 0xc3, byte(i)})
		checkSum(t, inHex(s), One(s), want(s))
	}
}

// P1.2: one that was written nothing.
func TestNew(t *testing.T) {
	h := New()
	if h.Len() != 0 {
		t.Errorf("Len %d", h.Len())
	}
	checkSum(t, "New", h.Sum(), One(""))
}

// P1.2: what is written stands behind what was written; Len counts it.
func TestWrite(t *testing.T) {
	h, all := New(), ""
	for _, n := range edges {
		s := sample(n + 7)[7:]
		h.Write(s)
		all += s
		if h.Len() != len(all) {
			t.Errorf("behind %d bytes: Len %d", len(all), h.Len())
		}
		checkSum(t, "behind "+inHex(s), h.Sum(), want(all))
	}
}

// P1.2: the order counts.
func TestWriteOrder(t *testing.T) {
	h := New()
	h.Write("ab")
	h.Write("c")
	checkSum(t, "ab, c", h.Sum(), One("abc"))
	h = New()
	h.Write("c")
	h.Write("ab")
	checkSum(t, "c, ab", h.Sum(), One("cab"))
}

// P1.2: a text of nothing changes nothing, at every place of a block.
func TestWriteNothing(t *testing.T) {
	for _, n := range edges {
		s := sample(n)
		h := New()
		h.Write("")
		h.Write(s)
		h.Write("")
		h.Write("")
		if h.Len() != n {
			t.Errorf("%d bytes: Len %d", n, h.Len())
		}
		checkSum(t, "and nothing", h.Sum(), want(s))
		h.Write("more")
		checkSum(t, "nothing and more", h.Sum(), want(s+"more"))
	}
}

// P1.2: Sum changes nothing: asked in between, and twice, at every place of a block.
func TestSumInBetween(t *testing.T) {
	s := sample(300)
	h := New()
	for i := range len(s) {
		first, second := h.Sum(), h.Sum()
		if first != second || first != want(s[:i]) {
			t.Errorf("behind %d bytes: %s, then %s, want %s", i, inHex(first), inHex(second), inHex(want(s[:i])))
		}
		if h.Len() != i {
			t.Errorf("behind %d bytes: Len %d", i, h.Len())
		}
		h.Write(s[i : i+1])
	}
	checkSum(t, "in the end", h.Sum(), want(s))
}

// P1.2: Len alone, without a Sum between.
func TestLen(t *testing.T) {
	h, n := New(), 0
	for _, size := range edges {
		h.Write(sample(size))
		n += size
		if h.Len() != n || h.Len() != n {
			t.Errorf("got %d, want %d", h.Len(), n)
		}
	}
}

// P1.2: behind Reset nothing was written, wherever in a block it comes, and whether a sum was asked or not.
func TestReset(t *testing.T) {
	for _, n := range edges {
		for _, asked := range []bool{false, true} {
			h := New()
			h.Write(sample(n))
			if asked {
				h.Sum()
			}
			h.Reset()
			if h.Len() != 0 {
				t.Errorf("%d bytes: Len %d", n, h.Len())
			}
			checkSum(t, "nothing", h.Sum(), One(""))
			s := sample(n + 70)[1:]
			h.Write(s)
			if h.Len() != len(s) {
				t.Errorf("%d bytes again: Len %d", len(s), h.Len())
			}
			checkSum(t, "again", h.Sum(), want(s))
		}
	}
}

// P1.2: Reset of one that was written nothing, and twice.
func TestResetOfNothing(t *testing.T) {
	h := New()
	h.Reset()
	h.Reset()
	h.Write("abc")
	if h.Len() != 3 {
		t.Errorf("Len %d", h.Len())
	}
	checkSum(t, "abc", h.Sum(), One("abc"))
}

// P1.2: two that go on side by side do not touch each other; nor does a third that is reset, nor One.
func TestSideBySide(t *testing.T) {
	s := sample(500)
	a, b, c := New(), New(), New()
	for i := range len(s) - 1 {
		a.Write(s[i : i+1])
		b.Write(s[i+1 : i+2])
		c.Write(s[:i])
		One(s[:i])
		c.Reset()
	}
	if a.Len() != 499 || b.Len() != 499 || c.Len() != 0 {
		t.Errorf("Len %d, %d, %d", a.Len(), b.Len(), c.Len())
	}
	checkSum(t, "a", a.Sum(), want(s[:499]))
	checkSum(t, "b", b.Sum(), want(s[1:]))
	checkSum(t, "c", c.Sum(), want(""))
}

// P1.3: cut into two pieces, anywhere.
func TestCutInTwo(t *testing.T) {
	h := New()
	for _, n := range edges {
		s := sample(n)
		for i := range n + 1 {
			h.Reset()
			h.Write(s[:i])
			h.Write(s[i:])
			if h.Sum() != want(s) || h.Len() != n {
				t.Errorf("%d bytes cut at %d: got %s, Len %d", n, i, inHex(h.Sum()), h.Len())
			}
		}
	}
}

// P1.3: cut into three pieces, anywhere.
func TestCutInThree(t *testing.T) {
	s := sample(140)
	wanted := want(s)
	h := New()
	for i := range len(s) + 1 {
		for j := i; j <= len(s); j++ {
			h.Reset()
			h.Write(s[:i])
			h.Write(s[i:j])
			h.Write(s[j:])
			if h.Sum() != wanted {
				t.Fatalf("cut at %d and %d: got %s", i, j, inHex(h.Sum()))
			}
		}
	}
}

// P1.3: cut into pieces of one size, from a byte to more than several blocks.
func TestCutInMany(t *testing.T) {
	s := sample(1000)
	wanted := want(s)
	for size := 1; size <= len(s); size++ {
		h := New()
		for i := 0; i < len(s); i += size {
			h.Write(s[i:min(i+size, len(s))])
		}
		if h.Sum() != wanted || h.Sum() != One(s) {
			t.Errorf("pieces of %d: got %s", size, inHex(h.Sum()))
		}
	}
}

// P3: of a text that was written nothing is kept: the memory behind it may change.
func TestTextIsNotKept(t *testing.T) {
	for _, n := range edges[1:] {
		memory := []byte(sample(n))
		wanted := want(string(memory))
		h := New()
		h.Write(unsafe.String(&memory[0], n))
		if string(memory) != sample(n) {
			t.Errorf("%d bytes: written into", n)
		}
		clear(memory)
		checkSum(t, "the text's memory changed", h.Sum(), wanted)
	}
}

// P3: each answer is new memory.
func TestAnswerIsNew(t *testing.T) {
	h := New()
	first, second := h.Sum(), h.Sum()
	if unsafe.StringData(first) == unsafe.StringData(second) {
		t.Error("two sums share memory")
	}
	h.Write(sample(200))
	checkSum(t, "a sum that was told", first, want(""))
}

// P4: what others do at the same time is not to be seen.
func TestAtOneTime(t *testing.T) {
	var wait sync.WaitGroup
	got := make([]string, 8)
	for i := range got {
		wait.Go(func() {
			h := New()
			for range 100 {
				h.Write(sample(10 + i))
			}
			got[i] = h.Sum()
		})
	}
	wait.Wait()
	for i, sum := range got {
		checkSum(t, "of eight", sum, want(strings.Repeat(sample(10+i), 100)))
	}
}
