package sum512

import (
	"crypto/sha512"
	"encoding"
	"encoding/binary"
	"encoding/hex"
	"math"
	"math/big"
	"strings"
	"sync"
	"testing"
	"unsafe"
)

// edges are lengths about the end of a block, of one and of several: where the end of a text needs a block more, and where it does not.
var edges = []int{0, 1, 7, 8, 9, 63, 64, 110, 111, 112, 113, 119, 120, 126, 127, 128, 129, 130, 238, 239, 240, 241, 247, 248, 255, 256, 257, 367, 368, 383, 384, 385, 511, 512, 513}

// sample answers a text of n bytes, in which neighbouring words and blocks differ.
func sample(n int) string {
	b := make([]byte, n)
	x := uint32(n)
	for i := range b {
		x = x*1664525 + 1013904223
		b[i] = byte(x >> 24)
	}
	return string(b)
}

// library answers the sum of s as Go's own library tells it.
func library(s string) string {
	sum := sha512.Sum512([]byte(s))
	return string(sum[:])
}

// check tells whether h is one that s was written to, by all that can be asked of it.
func check(t *testing.T, h *Hash, s, what string) {
	t.Helper()
	if h.Len() != len(s) {
		t.Errorf("%s: Len %d, want %d", what, h.Len(), len(s))
	}
	if got := h.Sum(); got != library(s) {
		t.Errorf("%s: Sum %x, want %x", what, got, library(s))
	}
}

// P2.1: sums that are known from elsewhere.
func TestKnown(t *testing.T) {
	const fips = "abcdefghbcdefghicdefghijdefghijkefghijklfghijklmghijklmnhijklmnoijklmnopjklmnopqklmnopqrlmnopqrsmnopqrstnopqrstu"
	for text, wanted := range map[string]string{
		"":                           "cf83e1357eefb8bdf1542850d66d8007d620e4050b5715dc83f4a921d36ce9ce47d0d13c5d85f2b0ff8318d2877eec2f63b931bd47417a81a538327af927da3e",
		"abc":                        "ddaf35a193617abacc417349ae20413112e6fa4e89a97ea20a9eeee64b55d39a2192992a274fc1a836ba3c23a3feebbd454d4423643ce80e2a9ac94fa54ca49f",
		fips:                         "8e959b75dae313da8cf4f72814fc143f8f7779c6eb9f7fa17299aeadb6889018501d289e4900f7e4331b99dec4b5433ac7d329eeb6dd26545e96e55b874be909",
		"\x00":                       "b8244d028981d693af7b456af8efa4cad63d282e19ff14942c246e50d9351d22704a802a71c3580b6370de4ceb293c324a8423342557d4e5c38438f0e36910ee",
		strings.Repeat("a", 1000000): "e718483d0ce769644e2e42c7bc15b4638e1f98b13b2044285632a803afa973ebde0ff244877ea60a4cb0432ce577c31beb009c5c2c49aa2e4eadb217ad8cc09b",
	} {
		if got := hex.EncodeToString([]byte(One(text))); got != wanted {
			t.Errorf("%d bytes: got %s, want %s", len(text), got, wanted)
		}
	}
}

// P2.1: the chapter's example.
func TestExample(t *testing.T) {
	if got := hex.EncodeToString([]byte(One("abc"))); !strings.HasPrefix(got, "ddaf35a1") {
		t.Errorf("got %s", got)
	}
}

// P2.1: every length over several blocks; and texts that look like the end that is put behind them.
func TestLengths(t *testing.T) {
	for n := range 700 {
		for _, s := range []string{sample(n), strings.Repeat("\x00", n), strings.Repeat("\x80", n), strings.Repeat("\xff", n)} {
			got := One(s)
			if len(got) != 64 {
				t.Fatalf("%d bytes: a sum of %d bytes", n, len(got))
			}
			if got != library(s) {
				t.Errorf("%d bytes of %x..: got %x, want %x", n, s[:min(n, 1)], got, library(s))
			}
		}
	}
}

// P2.1: every byte, UTF-8 or none, at every place of a block.
func TestBytes(t *testing.T) {
	for i := range 256 {
		s := []byte(sample(blockSize + 1))
		s[i%blockSize] = byte(i)
		s[(i+64)%blockSize] = byte(255 - i)
		if got := One(string(s)); got != library(string(s)) {
			t.Errorf("%x: got %x", s, got)
		}
	}
}

// P2.1: lengths whose number of bits needs one to four bytes.
func TestLong(t *testing.T) {
	for _, n := range []int{31, 32, 8191, 8192, 8193, 1<<21 - 1, 1 << 21, 1<<21 + 111, 1<<21 + 112} {
		if s := sample(n); One(s) != library(s) {
			t.Errorf("%d bytes: got %x", n, One(s))
		}
	}
}

// P2.1: the end of a text of every length that there may be: a bit, nothing, and sixteen bytes of length, up to the end of a block.
func TestEnding(t *testing.T) {
	for _, most := range []int{0, 128, 8192, 1 << 21, 1 << 29, math.MaxInt32, 1 << 37, 1 << 45, 1 << 53, 1 << 61, 1<<61 + 1<<60, 1 << 62, math.MaxInt64} {
		for size := most; size >= 0 && size > most-300; size-- {
			zeros := 2*blockSize - 1 - lengthSize - size%blockSize
			wanted := make([]byte, 1+zeros%blockSize+lengthSize)
			wanted[0] = 0x80
			count := new(big.Int).Lsh(big.NewInt(int64(size)), 3)
			count.FillBytes(wanted[len(wanted)-lengthSize:])
			if got := ending(size); got != string(wanted) {
				t.Errorf("%d bytes: got %x, want %x", size, got, wanted)
			}
		}
	}
}

// libraryAt answers the library's sum of s behind so many bytes that were written, as if they had changed nothing; size is of whole blocks.
func libraryAt(t *testing.T, size int, s string) string {
	h := sha512.New()
	state, err := h.(encoding.BinaryMarshaler).MarshalBinary()
	if err != nil {
		t.Fatal(err)
	}
	binary.BigEndian.PutUint64(state[len(state)-8:], uint64(size))
	if err := h.(encoding.BinaryUnmarshaler).UnmarshalBinary(state); err != nil {
		t.Fatal(err)
	}
	h.Write([]byte(s))
	return string(h.Sum(nil))
}

// P2.1, P2.2: what is written behind more than could be written here: the number of bits takes five to eight bytes.
func TestBehindMuch(t *testing.T) {
	for _, size := range []int{1 << 29, 1<<31 - blockSize, 1 << 31, 1 << 37, 1 << 45, 1 << 53, 1<<61 - 1<<20} {
		h := New()
		h.size = size
		s := sample(300)
		h.Write(s)
		if h.Len() != size+300 || h.Sum() != libraryAt(t, size, s) {
			t.Errorf("behind %d bytes: Len %d, Sum %x", size, h.Len(), h.Sum())
		}
	}
}

// P2.2: one that was written nothing, and another one that is as new when the first has gone on.
func TestNew(t *testing.T) {
	h := New()
	check(t, h, "", "new")
	h.Write("abc")
	check(t, New(), "", "new again")
	check(t, h, "abc", "the first")
}

// P2.2: what is written stands behind what was written, whatever the order of lengths; Len counts it.
func TestWrite(t *testing.T) {
	up, down := New(), New()
	allUp, allDown := "", ""
	for i := range edges {
		s, r := sample(edges[i]), sample(edges[len(edges)-1-i])
		up.Write(s)
		down.Write(r)
		allUp, allDown = allUp+s, allDown+r
		check(t, up, allUp, "ever longer pieces")
		check(t, down, allDown, "ever shorter pieces")
	}
}

// P2.2: the order counts.
func TestOrder(t *testing.T) {
	h := New()
	h.Write("c")
	h.Write("ab")
	check(t, h, "cab", "c, ab")
	if h.Sum() == One("abc") {
		t.Error("cab has the sum of abc")
	}
}

// P2.2: a text of nothing changes nothing, at every place of a block.
func TestWriteNothing(t *testing.T) {
	for _, n := range edges {
		s := sample(n)
		h := New()
		h.Write("")
		check(t, h, "", "nothing")
		h.Write(s)
		h.Write("")
		h.Write("")
		check(t, h, s, "a text and nothing")
		h.Write("more")
		check(t, h, s+"more", "a text, nothing and more")
	}
}

// P2.2: Sum changes nothing: asked in between, and twice, at every place of a block; and a sum that is not asked in between is the same.
func TestSumInBetween(t *testing.T) {
	s := sample(500)
	asked, silent := New(), New()
	for i := range len(s) {
		if asked.Sum() != asked.Sum() {
			t.Errorf("behind %d bytes: two sums", i)
		}
		check(t, asked, s[:i], "a byte at a time")
		asked.Write(s[i : i+1])
		silent.Write(s[i : i+1])
	}
	check(t, asked, s, "asked in between")
	check(t, silent, s, "not asked in between")
}

// P2.2: Len changes nothing, nor does it wait for a Sum.
func TestLen(t *testing.T) {
	h, all := New(), ""
	for _, n := range edges {
		s := sample(n)
		h.Write(s)
		all += s
		if h.Len() != len(all) || h.Len() != len(all) {
			t.Errorf("got %d, want %d", h.Len(), len(all))
		}
	}
	check(t, h, all, "in the end")
}

// P2.2: two that go on side by side do not touch each other; nor does One.
func TestSideBySide(t *testing.T) {
	s := sample(600)
	a, b := New(), New()
	for i := range len(s) - 2 {
		a.Write(s[i : i+1])
		One(s[:i])
		b.Write(s[i+1 : i+3])
		b.Sum()
	}
	all := ""
	for i := range len(s) - 2 {
		all += s[i+1 : i+3]
	}
	check(t, a, s[:598], "a byte at a time")
	check(t, b, all, "two bytes at a time")
}

// A copy goes on by itself, as Hash's remark says.
func TestCopy(t *testing.T) {
	for _, n := range edges {
		s := sample(n)
		h := New()
		h.Write(s)
		other := *h
		h.Write("one")
		other.Write("another one")
		check(t, h, s+"one", "what was copied")
		check(t, &other, s+"another one", "the copy")
	}
}

// P2.3: cut into two pieces, anywhere.
func TestCutInTwo(t *testing.T) {
	for _, n := range edges {
		s := sample(n)
		for i := range n + 1 {
			h := New()
			h.Write(s[:i])
			h.Write(s[i:])
			if h.Sum() != library(s) || h.Len() != n {
				t.Errorf("%d bytes cut at %d: got %x, Len %d", n, i, h.Sum(), h.Len())
			}
		}
	}
}

// P2.3: cut into three pieces, at every two edges.
func TestCutInThree(t *testing.T) {
	s := sample(640)
	for _, i := range edges {
		for _, j := range edges {
			h := New()
			for _, piece := range []string{s[:min(i, j)], s[min(i, j):max(i, j)], s[max(i, j):]} {
				h.Write(piece)
			}
			check(t, h, s, "three pieces")
		}
	}
}

// P2.3: cut into pieces of one size, from a byte to more than several blocks.
func TestCutInMany(t *testing.T) {
	s := sample(1500)
	for size := 1; size <= len(s); size++ {
		h := New()
		for i := 0; i < len(s); i += size {
			h.Write(s[i:min(i+size, len(s))])
		}
		if h.Sum() != One(s) || h.Sum() != library(s) || h.Len() != len(s) {
			t.Errorf("pieces of %d: got %x, Len %d", size, h.Sum(), h.Len())
		}
	}
}

// P3: of a text that was written nothing is kept, nor is it written into: the memory behind it may change.
func TestTextIsNotKept(t *testing.T) {
	for _, n := range edges[1:] {
		memory := []byte(sample(n))
		h := New()
		h.Write(unsafe.String(&memory[0], n))
		if string(memory) != sample(n) {
			t.Errorf("%d bytes: written into", n)
		}
		clear(memory)
		check(t, h, sample(n), "the text's memory changed")
	}
}

// P3: each answer is new memory.
func TestAnswerIsNew(t *testing.T) {
	h := New()
	first, second := h.Sum(), h.Sum()
	if unsafe.StringData(first) == unsafe.StringData(second) {
		t.Error("two sums share memory")
	}
	h.Write(sample(200))
	if first != library("") {
		t.Errorf("a sum that was told became %x", first)
	}
}

// P4: what others do at the same time is not to be seen.
func TestAtOneTime(t *testing.T) {
	var wait sync.WaitGroup
	hashes := make([]*Hash, 8)
	for i := range hashes {
		wait.Go(func() {
			hashes[i] = New()
			for range 100 {
				hashes[i].Write(sample(10 + i))
			}
		})
	}
	wait.Wait()
	for i, h := range hashes {
		check(t, h, strings.Repeat(sample(10+i), 100), "one of eight")
	}
}
