package scalar

import (
	"crypto/ed25519"
	"crypto/sha512"
	"encoding/hex"
	"math"
	"math/big"
	"strings"
	"sync"
	"testing"
	"unsafe"

	"engrosser/sample"
)

// theL is the chapter's L, read from its decimal digits.
var theL = func() *big.Int {
	n, ok := new(big.Int).SetString("27742317777372353535851937790883648493", 10)
	if !ok {
		panic("no number")
	}
	return n.Add(n, power(252))
}()

// power answers 2 to the power n.
func power(n int) *big.Int { return new(big.Int).Lsh(big.NewInt(1), uint(n)) }

// about answers n and its neighbours, those that are not below 0.
func about(n *big.Int) (all []*big.Int) {
	for i := int64(-2); i <= 2; i++ {
		if next := new(big.Int).Add(n, big.NewInt(i)); next.Sign() >= 0 {
			all = append(all, next)
		}
	}
	return all
}

// text answers the bytes of n, the least first, in so many bytes.
func text(n *big.Int, size int) string {
	b := n.FillBytes(make([]byte, size))
	for i := range size / 2 {
		b[i], b[size-1-i] = b[size-1-i], b[i]
	}
	return string(b)
}

// value answers the number of s.
func value(s string) *big.Int {
	b := []byte(s)
	for i := range len(b) / 2 {
		b[i], b[len(b)-1-i] = b[len(b)-1-i], b[i]
	}
	return new(big.Int).SetBytes(b)
}

// first answers the first n bytes of s, or all, if it has less.
func first(s string, n int) string { return s[:min(n, len(s))] }

// modulo answers n modulo L in 32 bytes, as great numbers tell it.
func modulo(n *big.Int) string { return text(new(big.Int).Mod(n, theL), 32) }

// wantedMulAdd answers what MulAdd is to answer, as great numbers tell it.
func wantedMulAdd(a, b, c string) string {
	n := new(big.Int).Mul(value(first(a, 32)), value(first(b, 32)))
	return modulo(n.Add(n, value(first(c, 32))))
}

// edges answers texts of so many bytes at which a carry, a word, a borrow or an L more or less may be missed.
func edges(size int) (all []string) {
	numbers := []*big.Int{}
	for n := 0; n < 8*size; n++ {
		numbers = append(numbers, power(n), new(big.Int).Sub(power(n), big.NewInt(1)))
	}
	for _, n := range []int{64, 128, 192, 252, 253, 254, 255, 256, 316, 320, 384, 448, 508, 512} {
		numbers = append(numbers, about(power(n))...)
	}
	most := new(big.Int).Div(new(big.Int).Sub(power(8*size), big.NewInt(1)), theL)
	for _, n := range []int64{1, 2, 3, 7, 8, 15, 16, 17} {
		numbers = append(numbers, about(new(big.Int).Mul(theL, big.NewInt(n)))...)
	}
	numbers = append(numbers, about(new(big.Int).Mul(theL, most))...)
	for n := 0; n < 8*size-252; n += 4 {
		// Those that begin as L does are the ones of which 2^252 is taken once too often, or of which more than a word has room for.
		numbers = append(numbers, about(new(big.Int).Lsh(theL, uint(n)))...)
		numbers = append(numbers, about(new(big.Int).Lsh(new(big.Int).Sub(theL, big.NewInt(1)), uint(n)))...)
		numbers = append(numbers, about(power(252+n))...)
	}
	numbers = append(numbers, about(new(big.Int).Sub(power(8*size), big.NewInt(1)))...)
	for _, n := range numbers {
		if n.BitLen() <= 8*size {
			all = append(all, text(n, size))
		}
	}
	for _, piece := range []string{"\x00\xff", "\xff\x00", "\xff\xff\xff\xff\x00\x00\x00\x00", "\x00\x00\x00\x00\xff\xff\xff\xff", "\xff\xff\xff\xff\xff\xff\xff\xff\x00\x00\x00\x00\x00\x00\x00\x00", "\x80", "\x7f"} {
		all = append(all, strings.Repeat(piece, size/len(piece)))
	}
	return all
}

// someEdges answers those of 32 bytes at which most may go wrong.
func someEdges() (all []string) {
	for _, n := range []*big.Int{new(big.Int), power(32), power(64), power(128), power(192), power(252), power(253), power(255), theL, new(big.Int).Lsh(theL, 1), new(big.Int).Lsh(theL, 3), new(big.Int).Mul(theL, big.NewInt(15)), new(big.Int).Sub(power(256), big.NewInt(3))} {
		for _, next := range about(n) {
			all = append(all, text(next, 32))
		}
	}
	for i := range 10 {
		all = append(all, sample.Text(32, i))
	}
	return all
}

// P4.1: what has 32 bytes and is below L is right, and nothing else.
func TestRight(t *testing.T) {
	all := edges(32)
	for i := range 2000 {
		s := sample.Text(32, i)
		all = append(all, s, s[:31]+string([]byte{s[31] & 0x1f}), s[:31]+"\x10", s[:31]+"\x0f", s[:16]+strings.Repeat("\x00", 15)+"\x10")
	}
	for _, s := range all {
		if got, wanted := Right(s), value(s).Cmp(theL) < 0; got != wanted {
			t.Errorf("%x: got %v", s, got)
		}
	}
	for i := int64(-300); i <= 300; i++ {
		if s := text(new(big.Int).Add(theL, big.NewInt(i)), 32); Right(s) != (i < 0) {
			t.Errorf("L and %d: got %v", i, Right(s))
		}
	}
}

// P4.1: L with one byte one more is not right; with one byte one less it is.
func TestRightBytes(t *testing.T) {
	order := text(theL, 32)
	for i := range 32 {
		for _, by := range []int{-1, 1} {
			b := []byte(order)
			b[i] += byte(by)
			s := string(b)
			if got := Right(s); got != (value(s).Cmp(theL) < 0) {
				t.Errorf("%x: got %v", s, got)
			}
		}
	}
}

// P4.1: a text of any other length is not right, whatever its number.
func TestRightLengths(t *testing.T) {
	for n := range 150 {
		for _, s := range []string{strings.Repeat("\x00", n), sample.Text(n, 1), first("\x01"+strings.Repeat("\x00", 150), n), first(strings.Repeat(text(new(big.Int).Sub(theL, big.NewInt(1)), 32), 5), n)} {
			wanted := n == 32 && value(s).Cmp(theL) < 0
			if got := Right(s); got != wanted {
				t.Errorf("%x: got %v", s, got)
			}
		}
	}
	if !Right(strings.Repeat("\x00", 32)) || Right("") || Right(strings.Repeat("\x00", 31)) || Right(strings.Repeat("\x00", 33)) || Right(strings.Repeat("\x00", 64)) {
		t.Error("0 in 32 bytes, none, 31, 33, 64")
	}
}

// P4.1: the chapter's example.
func TestExample(t *testing.T) {
	if got := Reduce(text(theL, 32)); got != strings.Repeat("\x00", 32) {
		t.Errorf("got %x", got)
	}
}

// P4.1: texts of 64 bytes and of 32, at every edge, and others.
func TestReduce(t *testing.T) {
	all := append(edges(64), edges(32)...)
	for i := range 3000 {
		all = append(all, sample.Text(64, i), sample.Text(32, i))
	}
	for _, s := range all {
		if got := Reduce(s); got != modulo(value(s)) {
			t.Errorf("%x: got %x", s, got)
		}
	}
}

// P4.1: every length: one that is short counts as it is, and of one that is long just the first 64 bytes count.
func TestReduceLengths(t *testing.T) {
	for n := range 200 {
		for _, s := range []string{sample.Text(n, 0), strings.Repeat("\x00", n), strings.Repeat("\xff", n), first("\x01"+strings.Repeat("\x00", 200), n)} {
			if got := Reduce(s); got != modulo(value(first(s, 64))) {
				t.Errorf("%x: got %x", s, got)
			}
		}
	}
	if s := sample.Text(63, 9) + "\x07"; Reduce(s+"\x01") != Reduce(s) || Reduce(s+s) != Reduce(s) || Reduce(s[:63]) == Reduce(s) {
		t.Error("65 bytes, 128, 63")
	}
	if s := sample.Text(1<<20, 9); Reduce(s) != Reduce(s[:64]) {
		t.Error("2^20 bytes")
	}
}

// P4.1: multiples of L are 0, and those one less are L - 1, however great.
func TestReduceMultiples(t *testing.T) {
	nothing, last := strings.Repeat("\x00", 32), text(new(big.Int).Sub(theL, big.NewInt(1)), 32)
	most := new(big.Int).Div(power(512), theL)
	for i := range 2000 {
		n := new(big.Int).Mod(value(sample.Text(1+i%40, i)), most)
		n.Add(n, big.NewInt(1)).Mul(n, theL)
		if got := Reduce(text(n, 64)); got != nothing {
			t.Errorf("%x: got %x", n, got)
		}
		if got := Reduce(text(n.Sub(n, big.NewInt(1)), 64)); got != last {
			t.Errorf("%x: got %x", n, got)
		}
	}
}

// P4.1: each bit, at each place, alone.
func TestReduceBits(t *testing.T) {
	wanted := big.NewInt(1)
	for i := range 512 {
		if got := Reduce(text(power(i), i/8+1)); got != text(wanted, 32) {
			t.Errorf("2^%d: got %x", i, got)
		}
		wanted.Lsh(wanted, 1).Mod(wanted, theL)
	}
}

// P4.1: products and sums of every three edges.
func TestMulAdd(t *testing.T) {
	all := someEdges()
	for i, a := range all {
		for j, b := range all {
			for _, c := range []string{all[(i*7+j*3)%len(all)], all[(i+j*5+1)%len(all)], "", strings.Repeat("\xff", 32)} {
				if got := MulAdd(a, b, c); got != wantedMulAdd(a, b, c) {
					t.Errorf("%x times %x, and %x: got %x", a, b, c, got)
				}
			}
		}
	}
}

// P4.1: products whose words are all full, or nothing, where the most is carried.
func TestMulAddCarries(t *testing.T) {
	word := [4]string{strings.Repeat("\x00", 8), "\x01" + strings.Repeat("\x00", 7), "\xfe" + strings.Repeat("\xff", 7), strings.Repeat("\xff", 8)}
	var all []string
	for i := range 256 {
		all = append(all, word[i%4]+word[i/4%4]+word[i/16%4]+word[i/64])
	}
	for i, a := range all {
		for j, b := range all {
			if c := all[255-(i+j)%3]; MulAdd(a, b, c) != wantedMulAdd(a, b, c) {
				t.Errorf("%x times %x, and %x: got %x", a, b, c, MulAdd(a, b, c))
			}
		}
	}
	full := strings.Repeat("\xff", 32)
	n := new(big.Int).Sub(power(512), power(256))
	if got := MulAdd(full, full, full); got != modulo(n) {
		t.Errorf("the greatest: got %x", got)
	}
}

// P4.1: texts of every length, each at each place: short ones count as they are, and of long ones just the first 32 bytes count.
func TestMulAddLengths(t *testing.T) {
	b, c := sample.Text(32, 1), sample.Text(32, 2)
	for n := range 150 {
		for _, a := range []string{sample.Text(n, 3), strings.Repeat("\xff", n)} {
			for _, l := range [][3]string{{a, b, c}, {b, a, c}, {b, c, a}, {a, a, a}, {a, a, ""}, {"", a, b}, {"", "", a}} {
				if got := MulAdd(l[0], l[1], l[2]); got != wantedMulAdd(l[0], l[1], l[2]) {
					t.Errorf("%x times %x, and %x: got %x", l[0], l[1], l[2], got)
				}
			}
		}
	}
	if got := MulAdd("", "", ""); got != strings.Repeat("\x00", 32) {
		t.Errorf("of nothing: got %x", got)
	}
	wanted := MulAdd(b, c, b)
	for i, got := range []string{MulAdd(b+"\x01", c, b), MulAdd(b, c+"\x01", b), MulAdd(b, c, b+"\x01"), MulAdd(b+c, c+c, b+b+b)} {
		if got != wanted {
			t.Errorf("more behind, %d: got %x", i, got)
		}
	}
}

// P4.1: which of the three is added counts.
func TestMulAddPlaces(t *testing.T) {
	for _, l := range [][4]int64{{3, 5, 7, 22}, {5, 3, 7, 22}, {7, 3, 5, 26}, {0, 5, 7, 7}, {5, 0, 7, 7}, {1, 5, 0, 5}, {255, 255, 255, 65280}} {
		got := MulAdd(text(big.NewInt(l[0]), 32), text(big.NewInt(l[1]), 4), text(big.NewInt(l[2]), 1))
		if got != text(big.NewInt(l[3]), 32) {
			t.Errorf("%v: got %x", l, got)
		}
	}
}

// P4.1, P4.2: what they are for: the second half of a signature of RFC 8032, as Go's own library makes it.
func TestSignatures(t *testing.T) {
	for i := range 50 {
		seed, message := sample.Text(32, i), sample.Text(i*3, 77)
		key := ed25519.NewKeyFromSeed([]byte(seed))
		sig := string(ed25519.Sign(key, []byte(message)))
		sum := library(seed)
		secret, ok := Clamp(sum[:32])
		if !ok {
			t.Fatalf("%x is not clamped", sum[:32])
		}
		r := Reduce(library(sum[32:] + message))
		k := Reduce(library(sig[:32] + string(key[32:]) + message))
		if got := MulAdd(k, secret, r); got != sig[32:] || !Right(got) {
			t.Errorf("%d: got %x, want %x", i, got, sig[32:])
		}
		if MulAdd(k, Reduce(secret), r) != sig[32:] {
			t.Errorf("%d: another one, if the secret number is reduced ahead", i)
		}
	}
}

// library answers the SHA-512 of s, as Go's own library tells it.
func library(s string) string {
	sum := sha512.Sum512([]byte(s))
	return string(sum[:])
}

// P4.1, P4.2: of RFC 8032's first signature: the seed's sum, clamped, and its second half.
func TestKnownSignature(t *testing.T) {
	unhex := func(s string) string {
		b, err := hex.DecodeString(s)
		if err != nil {
			t.Fatal(err)
		}
		return string(b)
	}
	public := unhex("d75a980182b10ab7d54bfed3c964073a0ee172f3daa62325af021a68f707511a")
	sig := unhex("e5564300c360ac729086e2cc806e828a84877f1eb8e5d974d873e065224901555fb8821590a33bacc61e39701cf9b46bd25bf5f0595bbe24655141438e7a100b")
	sum := library(unhex("9d61b19deffd5a60ba844af492ec2cc44449c5697b326919703bac031cae7f60"))
	secret, ok := Clamp(sum[:32])
	if want := unhex("307c83864f2833cb427a2ef1c00a013cfdff2768d980c0a3a520f006904de94f"); secret != want || !ok {
		t.Errorf("clamped: got %x, %v", secret, ok)
	}
	if got := MulAdd(Reduce(library(sig[:32]+public)), secret, Reduce(library(sum[32:]))); got != sig[32:] {
		t.Errorf("got %x", got)
	}
}

// P4.2: every first byte with every last one; what is between stays.
func TestClamp(t *testing.T) {
	for i := range 256 {
		for j := range 256 {
			middle := sample.Text(30, i*256+j)
			got, ok := Clamp(string([]byte{byte(i)}) + middle + string([]byte{byte(j)}))
			wanted := string([]byte{byte(i / 8 * 8)}) + middle + string([]byte{byte(j%64 + 64)})
			if got != wanted || !ok {
				t.Fatalf("%x .. %x: got %x, %v", i, j, got, ok)
			}
		}
	}
}

// P4.2: what is clamped is a multiple of 8 of which bit 254 is the highest; clamped again it is the same.
func TestClampedNumber(t *testing.T) {
	for _, s := range append(edges(32), sample.Text(32, 1), sample.Text(32, 2)) {
		got, ok := Clamp(s)
		if n := value(got); !ok || len(got) != 32 || n.BitLen() != 255 || n.TrailingZeroBits() < 3 {
			t.Errorf("%x: got %x, %v", s, got, ok)
		}
		if again, ok := Clamp(got); again != got || !ok {
			t.Errorf("%x: again %x, %v", s, again, ok)
		}
		for i := range 256 {
			if i >= 3 && i < 254 && Bit(got, i) != Bit(s, i) {
				t.Errorf("%x: bit %d became another one", s, i)
			}
		}
	}
}

// P4.2: a text of any other length is nothing.
func TestClampNothing(t *testing.T) {
	for n := range 150 {
		for _, s := range []string{sample.Text(n, 0), strings.Repeat("\x00", n), strings.Repeat("\xff", n)} {
			if got, ok := Clamp(s); ok != (n == 32) || n != 32 && got != "" {
				t.Errorf("%x: got %x, %v", s, got, ok)
			}
		}
	}
}

// P4.2: every bit of texts of every length, as great numbers tell it, and what is behind them.
func TestBit(t *testing.T) {
	for n := range 130 {
		s := sample.Text(n, 5)
		number := value(s)
		for i := range 8*n + 70 {
			if got := Bit(s, i); got != int(number.Bit(i)) {
				t.Errorf("%x, %d: got %d", s, i, got)
			}
		}
	}
}

// P4.2: each bit alone is 1, and all others are 0.
func TestBitAlone(t *testing.T) {
	for i := range 520 {
		s := text(power(i), 65)
		for j := range 520 {
			if got := Bit(s, j); (got == 1) != (i == j) || got != 0 && got != 1 {
				t.Errorf("2^%d, bit %d: got %d", i, j, got)
			}
		}
	}
}

// P4.2, P6: below 0, and behind the last one, there is none, as far as a number goes.
func TestBitNowhere(t *testing.T) {
	for _, n := range []int{0, 1, 2, 31, 32, 33, 64, 1000} {
		s := strings.Repeat("\xff", n)
		for _, i := range []int{-1, -2, -7, -8, -9, -64, -256, -8 * n, -8*n - 1, math.MinInt32, math.MinInt64, math.MinInt64 + 1, math.MinInt64 + 7, math.MinInt64 + 8, 8 * n, 8*n + 1, 8*n + 7, 8*n + 8, 16 * n << 20, 1 << 32, 1<<35 + 1, 1 << 61, 1 << 62, math.MaxInt32, math.MaxInt64, math.MaxInt64 - 7, math.MaxInt64 - 8} {
			if i >= 0 && i < 8*n {
				continue
			}
			if got := Bit(s, i); got != 0 {
				t.Errorf("%d bytes, bit %d: got %d", n, i, got)
			}
		}
		if n > 0 && (Bit(s, 0) != 1 || Bit(s, 8*n-1) != 1) {
			t.Errorf("%d bytes: the least bit, and the last one", n)
		}
	}
}

// P4.2: a text is bytes, not runes.
func TestBitOfRunes(t *testing.T) {
	const s = "\u00e9\u20ac" // five bytes: c3 a9 e2 82 ac
	for i, b := range []byte{0xc3, 0xa9, 0xe2, 0x82, 0xac} {
		for j := range 8 {
			if got := Bit(s, 8*i+j); got != int(b>>j&1) {
				t.Errorf("byte %d, bit %d: got %d", i, j, got)
			}
		}
	}
	if Bit(s, 40) != 0 || Reduce(s) != "\xc3\xa9\xe2\x82\xac"+strings.Repeat("\x00", 27) {
		t.Error("behind the fifth byte; the number")
	}
}

// P4.3: reduced twice is reduced once, and right.
func TestReducedTwice(t *testing.T) {
	all := append(edges(64), edges(32)...)
	for i := range 300 {
		all = append(all, sample.Text(i, 4))
	}
	for _, s := range all {
		once := Reduce(s)
		if len(once) != 32 || Reduce(once) != once || !Right(once) {
			t.Errorf("%x: once %x, twice %x, right %v", s, once, Reduce(once), Right(once))
		}
	}
}

// P4.3: products in any order, and of sums; and reduced ahead, or only in the end.
func TestAnyOrder(t *testing.T) {
	all := someEdges()
	one := "\x01"
	for i, a := range all {
		for j, b := range all {
			c := all[(i*11+j*3+2)%len(all)]
			for _, same := range [][2]string{
				{MulAdd(a, b, ""), MulAdd(b, a, "")},
				{MulAdd(a, b, c), MulAdd(b, a, c)},
				{MulAdd(MulAdd(a, b, ""), c, ""), MulAdd(a, MulAdd(b, c, ""), "")},
				{MulAdd(MulAdd(a, b, ""), c, ""), MulAdd(MulAdd(c, a, ""), b, "")},
				{MulAdd(a, one, b), MulAdd(b, one, a)},
				{MulAdd(a, MulAdd(b, one, c), ""), MulAdd(a, b, MulAdd(a, c, ""))},
				{MulAdd(Reduce(a), Reduce(b), Reduce(c)), MulAdd(a, b, c)},
				{MulAdd(a, one, ""), Reduce(a)},
				{MulAdd(a, "", b), Reduce(b)},
				{Reduce(a + b), MulAdd(b, Reduce(text(power(256), 33)), a)},
			} {
				if same[0] != same[1] || !Right(same[0]) {
					t.Errorf("of %x, %x, %x: %x and %x", a, b, c, same[0], same[1])
				}
			}
		}
	}
}

// P3: a text that is handed in is not written into, nor what stands behind it, nor kept.
func TestTextIsNotKept(t *testing.T) {
	kept := sample.Text(96, 1)
	memory := []byte(kept)
	handed := unsafe.String(&memory[0], 32)
	long := unsafe.String(&memory[0], 64)
	clamped, _ := Clamp(handed)
	got := []string{Reduce(long), MulAdd(handed, handed, handed), clamped, Reduce(handed)}
	Right(handed)
	Bit(handed, 3)
	if string(memory) != kept {
		t.Error("written into")
	}
	clear(memory)
	clamped, _ = Clamp(kept[:32])
	for i, wanted := range []string{Reduce(kept[:64]), MulAdd(kept, kept, kept), clamped, Reduce(kept[:32])} {
		if got[i] != wanted {
			t.Errorf("answer %d became %x", i, got[i])
		}
	}
}

// P3: each answer is new memory, even where it is what was handed in.
func TestAnswerIsNew(t *testing.T) {
	right := text(big.NewInt(5), 32)
	clamped, _ := Clamp(sample.Text(32, 1))
	again, _ := Clamp(clamped)
	third, _ := Clamp(clamped)
	met := map[*byte]bool{}
	for i, s := range []string{right, clamped, again, third, Reduce(right), Reduce(right), MulAdd(right, "\x01", ""), MulAdd(right, "\x01", ""), MulAdd("", "", right)} {
		if met[unsafe.StringData(s)] {
			t.Errorf("answer %d shares memory", i)
		}
		met[unsafe.StringData(s)] = true
	}
}

// P4: what others do at the same time is not to be seen.
func TestAtOneTime(t *testing.T) {
	var wait sync.WaitGroup
	for i := range 8 {
		wait.Go(func() {
			for j := range 200 {
				a, b := sample.Text(32, i), sample.Text(64, j)
				if MulAdd(a, b, a) != wantedMulAdd(a, b, a) || Reduce(b) != modulo(value(b)) {
					t.Errorf("%x, %x", a, b)
				}
			}
		})
	}
	wait.Wait()
}
