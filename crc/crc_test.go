package crc

import (
	"hash/crc32"
	"math"
	"math/bits"
	"strings"
	"sync"
	"testing"
	"unsafe"

	"engrosser/sample"
)

// librarySum answers the sum of s as Go's own library says.
func librarySum(s string) uint32 { return crc32.ChecksumIEEE([]byte(s)) }

// wordsOfChapter answers More bit by bit, in the chapter's words.
func wordsOfChapter(sum uint32, s string) uint32 {
	sum = ^sum
	for _, b := range []byte(s) {
		sum ^= uint32(b)
		for range 8 {
			if sum%2 == 1 {
				sum = sum>>1 ^ 0xedb88320
			} else {
				sum >>= 1
			}
		}
	}
	return ^sum
}

// someSums answers numbers of 32 bits: each bit alone, and alone not there, the ends, and others.
func someSums() []uint32 {
	all := []uint32{0, 1, math.MaxUint32, math.MaxInt32, 0xedb88320, ^uint32(0xedb88320), 0x04c11db7, 0xcbf43926, 0xdebb20e3, 0x2144df1c, 0xdeadbeef, 0x12345678}
	for i := range 32 {
		all = append(all, 1<<i, ^uint32(1<<i), librarySum(sample.Text(i, 4)))
	}
	return all
}

// P8.1: the chapter's example, and other known sums.
func TestSumKnown(t *testing.T) {
	for s, want := range map[string]uint32{
		"123456789": 0xcbf43926, "": 0, "a": 0xe8b7be43, "abc": 0x352441c2, "message digest": 0x20159d7f, "abcdefghijklmnopqrstuvwxyz": 0x4c2750bd,
		"\x00": 0xd202ef8d, "\xff": 0xff000000, "\x00\x00\x00\x00": 0x2144df1c, "\xff\xff\xff\xff": 0xffffffff,
		"The quick brown fox jumps over the lazy dog": 0x414fa339, strings.Repeat("\x00", 32): 0x190a55ad, strings.Repeat("\xff", 32): 0xff6cab0b,
	} {
		if got := Sum(s); got != want {
			t.Errorf("Sum(%q): got %x", s, got)
		}
	}
}

// P8.1: all texts of up to two bytes.
func TestSumShort(t *testing.T) {
	for i := range 256 {
		one := string([]byte{byte(i)})
		if got := Sum(one); got != librarySum(one) {
			t.Errorf("Sum(%x): got %x", one, got)
		}
		for j := range 256 {
			two := string([]byte{byte(i), byte(j)})
			if got := Sum(two); got != librarySum(two) {
				t.Errorf("Sum(%x): got %x", two, got)
			}
		}
	}
}

// P8.1: texts of every length, and a long one.
func TestSumLengths(t *testing.T) {
	all := []string{sample.Text(1<<20, 1), strings.Repeat("\x00", 1<<20), strings.Repeat("äöü€", 100), "\xef\xbf\xbd\x80\xff"}
	for n := range 600 {
		all = append(all, sample.Text(n, 0), strings.Repeat("\x00", n), strings.Repeat("\xff", n))
	}
	for _, s := range all {
		if got := Sum(s); got != librarySum(s) {
			t.Errorf("Sum of %d bytes: got %x", len(s), got)
		}
	}
}

// P8.1: More of any number, with each byte behind it, with nothing, and with longer texts.
func TestMore(t *testing.T) {
	for _, sum := range someSums() {
		all := []string{"", sample.Text(3, 1), sample.Text(4, 1), sample.Text(5, 1), sample.Text(50, 1), "\x00\x00\x00\x00", "\xff\xff\xff\xff"}
		for i := range 256 {
			all = append(all, string([]byte{byte(i)}))
		}
		for _, s := range all {
			want := wordsOfChapter(sum, s)
			if got := More(sum, s); got != want || got != crc32.Update(sum, crc32.IEEETable, []byte(s)) {
				t.Errorf("More(%x, %x): got %x, not %x", sum, s, got, want)
			}
		}
		if More(sum, "") != sum {
			t.Errorf("More(%x, nothing): got %x", sum, More(sum, ""))
		}
	}
}

// P8.1: a text in pieces has the sum of the whole.
func TestMorePieces(t *testing.T) {
	for n := range 60 {
		s := sample.Text(n, 2)
		want := librarySum(s)
		for i := range n + 1 {
			for j := range n + 1 - i {
				if got := More(More(Sum(s[:i]), s[i:i+j]), s[i+j:]); got != want {
					t.Errorf("%d bytes in pieces at %d and %d: got %x, not %x", n, i, i+j, got, want)
				}
			}
		}
	}
	sum := uint32(0)
	s := sample.Text(3000, 3)
	for i := range len(s) {
		sum = More(sum, s[i:i+1])
	}
	if sum != librarySum(s) {
		t.Errorf("byte by byte: got %x", sum)
	}
}

// P8.2: two texts that are joined, wherever they meet.
func TestJoin(t *testing.T) {
	all := []string{strings.Repeat("\x00", 40), strings.Repeat("\xff", 40), "\x00" + sample.Text(39, 1) + "\x00"}
	for n := range 80 {
		all = append(all, sample.Text(n, 5))
	}
	for _, s := range all {
		for i := range len(s) + 1 {
			if got := Join(librarySum(s[:i]), librarySum(s[i:]), len(s)-i); got != librarySum(s) {
				t.Errorf("%x at %d: got %x", s, i, got)
			}
		}
	}
}

// P8.2: long texts behind, of sizes about powers of 2, and up to the longest.
func TestJoinLong(t *testing.T) {
	s := sample.Text(1000000, 6)
	b := uint32(0)
	a := librarySum("ahead")
	from := 0
	for _, to := range []int{0, 1, 2, 3, 4, 5, 7, 8, 9, 15, 16, 17, 31, 32, 33, 63, 64, 127, 128, 255, 256, 257, 511, 512, 1000, 1023, 1024, 2047, 2048, 4095, 4096, 8191, 8192, 16383, 16384, 32767, 32768, 65535, 65536, 65537, 100000, 131071, 131072, 262143, 262144, 349525, 500000, 524287, 524288, 699050, 999999, len(s)} {
		b = crc32.Update(b, crc32.IEEETable, []byte(s[from:to]))
		if got := Join(a, b, to); got != crc32.Update(a, crc32.IEEETable, []byte(s[:to])) {
			t.Errorf("%d bytes: got %x", to, got)
		}
		from = to
	}
}

// P8.2: any two numbers, of no text that is told: a is moved on over bytes that are 0, as in the chapter's words without the bits that are turned.
func TestJoinAnyNumbers(t *testing.T) {
	for i, a := range someSums() {
		for j, b := range someSums() {
			size := (i*7 + j) % 40
			// Both ends turn all bits, so they are turned here once more.
			want := ^wordsOfChapter(^a, strings.Repeat("\x00", size)) ^ b
			if got := Join(a, b, size); got != want {
				t.Errorf("Join(%x, %x, %d): got %x, not %x", a, b, size, got, want)
			}
		}
	}
}

// P8.2: sizes below 0 count as 0, those above 1000000 as that.
func TestJoinSizes(t *testing.T) {
	for _, a := range someSums() {
		b := bits.Reverse32(a) + 12345
		for _, size := range []int{-1, -2, -3, -8, -1000000, -1000001, -math.MaxInt32, math.MinInt32, -1 << 40, -math.MaxInt, math.MinInt} {
			if got := Join(a, b, size); got != a^b {
				t.Errorf("Join(%x, %x, %d): got %x", a, b, size, got)
			}
		}
		if got := Join(a, b, 0); got != a^b {
			t.Errorf("Join(%x, %x, 0): got %x", a, b, got)
		}
		last := Join(a, b, 1000000)
		for _, size := range []int{1000001, 1000002, 1000003, 1 << 20, 1 << 21, 2000000, math.MaxInt32, math.MaxInt32 + 1, math.MaxUint32, 1 << 32, 1<<32 + 1000000, 1 << 40, 1 << 62, math.MaxInt - 1, math.MaxInt} {
			if got := Join(a, b, size); got != last {
				t.Errorf("Join(%x, %x, %d): got %x, not %x", a, b, size, got, last)
			}
		}
		if a != 0 && Join(a, b, 999999) == last {
			t.Errorf("Join(%x, %x, 999999): got %x, too", a, b, last)
		}
	}
}

// turned answers s with the bits of pattern, whose lowest one stands at the bit from, turned; the bits of a byte are counted from the lowest one on, as they are summed.
func turned(s string, pattern uint32, from int) string {
	b := []byte(s)
	for i := range 32 {
		if pattern>>i&1 == 1 {
			b[(from+i)/8] ^= 1 << ((from + i) % 8)
		}
	}
	return string(b)
}

// P8.3: one to 32 bits in a row are turned, anywhere: all of them, or just some between the first and the last.
func TestBitsInARow(t *testing.T) {
	for _, n := range []int{1, 2, 3, 4, 5, 8, 9, 13, 40} {
		s := sample.Text(n, 7)
		sum := Sum(s)
		for size := range 32 {
			for from := range 8*n - size {
				all := uint32(1<<(size+1) - 1)
				for _, pattern := range []uint32{all, 1 | 1<<size, all & 0x55555555, all & 0xaaaaaaaa, all & 0xedb88320, all & 0x04c11db7, all & (uint32(size) * 0x9e3779b9)} {
					if other := turned(s, pattern, from); pattern != 0 && Sum(other) == sum {
						t.Errorf("%x and %x: both %x", s, other, sum)
					}
				}
			}
		}
	}
}

// P8.3: of texts that are unlike just in 16 bits, or in 32, no two have one sum.
func TestSumsAreUnlike(t *testing.T) {
	seen := map[uint32]int{}
	for i := range 1 << 16 {
		sum := Sum(string([]byte{byte(i), byte(i >> 8)}))
		if before, ok := seen[sum]; ok {
			t.Fatalf("%x and %x: both %x", before, i, sum)
		}
		seen[sum] = i
	}
	clear(seen)
	for i := range 1 << 18 {
		sum := More(Sum("ahead"), string([]byte{byte(i), byte(i >> 8), byte(i >> 16), byte(i >> 4)}))
		if before, ok := seen[sum]; ok {
			t.Fatalf("%x and %x: both %x", before, i, sum)
		}
		seen[sum] = i
	}
}

// P3: what is handed in is not written into, nor what stands behind it, nor kept.
func TestTextsAreNotKept(t *testing.T) {
	whole := "a text, of some bytes" + "more"
	memory := []byte(whole)
	sum := Sum(unsafe.String(&memory[0], 21))
	next := More(sum, unsafe.String(&memory[21], 4))
	if string(memory) != whole {
		t.Error("written into")
	}
	clear(memory)
	if sum != librarySum(whole[:21]) || next != librarySum(whole) || Sum("b") != librarySum("b") {
		t.Error("kept")
	}
}

// P4: what others ask at the same time is not to be seen.
func TestAtOneTime(t *testing.T) {
	var wait sync.WaitGroup
	for i := range 8 {
		wait.Go(func() {
			for j := range 100 {
				s := sample.Text(j, i)
				a, b := Sum(s[:j/2]), Sum(s[j/2:])
				if More(a, s[j/2:]) != librarySum(s) || Join(a, b, j-j/2) != librarySum(s) {
					t.Errorf("%x: got %x, %x", s, a, b)
				}
			}
		})
	}
	wait.Wait()
}
