package field

import (
	"math/big"
	"strings"
	"sync"
	"testing"
	"unsafe"

	"engrosser/api"
)

const full = 1<<64 - 1

// The chapter's p, and what stands about it.
var (
	theP     = new(big.Int).Sub(new(big.Int).Lsh(big.NewInt(1), 255), big.NewInt(19))
	beforeP  = api.Fe{full - 19, full, full, full >> 1}
	atP      = api.Fe{full - 18, full, full, full >> 1}
	behindP  = api.Fe{full - 17, full, full, full >> 1}
	lastLow  = api.Fe{full, full, full, full >> 1}
	firstTop = api.Fe{0, 0, 0, 1 << 63}
	allFull  = api.Fe{full, full, full, full}
)

// edges are numbers at which a carry, a word or a p more or less may be missed; some are not below p, or not below 2p.
var edges = []api.Fe{
	{}, {1}, {2}, {3}, {18}, {19}, {20}, {37}, {38}, {39}, {full}, {full - 1}, {0, 1}, {full, full}, {0, 0, 1}, {full, full, full}, {0, 0, 0, 1},
	{0, full, 0, 0}, {0, 0, 0, 1 << 61}, {0, 0, 0, 1 << 62}, {full, full, full, 1<<62 - 1},
	{full - 20, full, full, full >> 1}, beforeP, atP, behindP, {full - 1, full, full, full >> 1}, lastLow,
	firstTop, {1, 0, 0, 1 << 63}, {full, 0, 0, 1 << 63}, {0, full, full, 1 << 63},
	{full - 38, full, full, full}, {full - 37, full, full, full}, {full - 36, full, full, full}, {full - 35, full, full, full}, {full - 1, full, full, full}, allFull,
	{full, 0, full, 0}, {0, full, 0, full}, {full, full, full, full - 1}, {0, 0, 0, full},
}

// samples answers n numbers of four words that follow no plain rule.
func samples(n int) []api.Fe {
	all := make([]api.Fe, n)
	x := uint64(n)
	for i := range 4 * n {
		x ^= x << 13
		x ^= x >> 7
		x ^= x << 17
		all[i/4][i%4] = x * 0x2545f4914f6cdd1d
	}
	return all
}

// number answers the number of a's words.
func number(a [4]uint64) *big.Int {
	n := new(big.Int)
	for i := 3; i >= 0; i-- {
		n.Lsh(n, 64).Or(n, new(big.Int).SetUint64(a[i]))
	}
	return n
}

// words answers n modulo p, as words.
func words(n *big.Int) (a api.Fe) {
	n = new(big.Int).Mod(n, theP)
	for i := range a {
		a[i] = new(big.Int).Rsh(n, uint(64*i)).Uint64()
	}
	return a
}

// text answers the number of a's words in 32 bytes, the least one first.
func text(a api.Fe) string {
	var b [32]byte
	number(a).FillBytes(b[:])
	for i := range 16 {
		b[i], b[31-i] = b[31-i], b[i]
	}
	return string(b[:])
}

// P3.1: what is below p is right, and nothing else.
func TestRight(t *testing.T) {
	for _, a := range append(samples(2000), edges...) {
		if got, wanted := Right(a), number(a).Cmp(theP) < 0; got != wanted {
			t.Errorf("%x: got %v", a, got)
		}
	}
	for i := range uint64(100) {
		if got := Right(api.Fe{full - i, full, full, full >> 1}); got != (i >= 19) {
			t.Errorf("2^255 - %d: got %v", i+1, got)
		}
	}
	if !Right(api.Fe{}) || !Right(beforeP) || Right(atP) || Right(behindP) || Right(lastLow) || Right(firstTop) || Right(allFull) {
		t.Error("0, p - 1, p, p + 1, 2^255 - 1, 2^255, 2^256 - 1")
	}
}

// P3.1: 32 bytes, the least one first, are read if they are below p.
func TestMake(t *testing.T) {
	for _, a := range append(samples(2000), edges...) {
		got, ok := Make(text(a))
		if below := number(a).Cmp(theP) < 0; ok != below || ok && got != a || !ok && got != (api.Fe{}) {
			t.Errorf("%x: got %x, %v", a, got, ok)
		}
	}
	up := ""
	for i := range 32 {
		up += string([]byte{byte(i + 1)})
	}
	wanted := api.Fe{0x0807060504030201, 0x100f0e0d0c0b0a09, 0x1817161514131211, 0x201f1e1d1c1b1a19}
	if got, ok := Make(up); got != wanted || !ok || Bytes(got) != up {
		t.Errorf("1 to 32: got %x, %v", got, ok)
	}
}

// P3.1: a text of any other length, and one that says p or more, is nothing.
func TestMakeNothing(t *testing.T) {
	wrong := []string{
		text(atP), text(behindP), text(lastLow), text(firstTop), text(allFull),
		strings.Repeat("\x00", 31) + "\x80", "\x01" + strings.Repeat("\x00", 30) + "\x80", "\xed" + strings.Repeat("\xff", 30) + "\x7f",
	}
	for n := range 100 {
		if n != 32 {
			wrong = append(wrong, strings.Repeat("\x00", n), strings.Repeat("\x01", n), (text(beforeP) + text(api.Fe{}) + text(atP) + "1234")[:n])
		}
	}
	for _, s := range wrong {
		if got, ok := Make(s); ok || got != (api.Fe{}) {
			t.Errorf("%x: got %x, %v", s, got, ok)
		}
	}
}

// P3.1: the number is written below p, whatever its words.
func TestBytes(t *testing.T) {
	for _, a := range append(samples(2000), edges...) {
		if got := Bytes(a); got != text(words(number(a))) {
			t.Errorf("%x: got %x", a, got)
		}
	}
	nothing := strings.Repeat("\x00", 32)
	if Bytes(api.Fe{}) != nothing || Bytes(atP) != nothing || Bytes(behindP) != "\x01"+nothing[1:] || Bytes(allFull) != "\x25"+nothing[1:] || Bytes(beforeP) != "\xec"+strings.Repeat("\xff", 30)+"\x7f" {
		t.Error("0, p, p + 1, 2^256 - 1, p - 1")
	}
}

// P3.1: Small is the number itself, up to all bits of a word.
func TestSmall(t *testing.T) {
	for _, n := range []uint64{0, 1, 2, 19, 255, 256, 1 << 32, 1 << 63, full - 19, full - 18, full} {
		if got := Small(n); got != (api.Fe{n}) || !Right(got) {
			t.Errorf("%d: got %x", n, got)
		}
	}
}

// P3.1: a number that is not below p is odd as what it is modulo p.
func TestOdd(t *testing.T) {
	for _, a := range append(samples(2000), edges...) {
		if got := Odd(a); got != (words(number(a))[0]%2 == 1) {
			t.Errorf("%x: got %v", a, got)
		}
	}
	if Odd(api.Fe{}) || !Odd(Small(1)) || Odd(beforeP) || Odd(atP) || !Odd(behindP) || Odd(lastLow) || !Odd(firstTop) || !Odd(allFull) {
		t.Error("0, 1, p - 1, p, p + 1, 2^255 - 1, 2^255, 2^256 - 1")
	}
}

// P3.2: sums, rests and products of every two edges, and of others with them, as great numbers tell them.
func TestOfTwo(t *testing.T) {
	all := append(samples(200), edges...)
	for _, a := range all {
		for _, b := range all {
			m, n := number(a), number(b)
			if got := Add(a, b); got != words(new(big.Int).Add(m, n)) {
				t.Errorf("%x + %x: got %x", a, b, got)
			}
			if got := Sub(a, b); got != words(new(big.Int).Sub(m, n)) {
				t.Errorf("%x - %x: got %x", a, b, got)
			}
			if got := Mul(a, b); got != words(new(big.Int).Mul(m, n)) {
				t.Errorf("%x times %x: got %x", a, b, got)
			}
		}
	}
}

// P3.2: products whose words are all full or nothing, where the most is carried.
func TestMulCarries(t *testing.T) {
	word := [4]uint64{0, 1, full - 1, full}
	var all []api.Fe
	for i := range 256 {
		all = append(all, api.Fe{word[i%4], word[i/4%4], word[i/16%4], word[i/64]})
	}
	for _, a := range all {
		for _, b := range all {
			if got := Mul(a, b); got != words(new(big.Int).Mul(number(a), number(b))) {
				t.Errorf("%x times %x: got %x", a, b, got)
			}
			if got := Add(a, b); got != words(new(big.Int).Add(number(a), number(b))) {
				t.Errorf("%x + %x: got %x", a, b, got)
			}
		}
	}
}

// P3.2: what is less than 0, and p, which is 0.
func TestNeg(t *testing.T) {
	for _, a := range append(samples(2000), edges...) {
		if got := Neg(a); got != words(new(big.Int).Neg(number(a))) {
			t.Errorf("%x: got %x", a, got)
		}
	}
	if Neg(api.Fe{}) != (api.Fe{}) || Neg(atP) != (api.Fe{}) || Neg(Small(1)) != beforeP || Neg(beforeP) != Small(1) || Neg(behindP) != beforeP {
		t.Error("0, p, 1, p - 1, p + 1")
	}
}

// P3.2: the chapter's example.
func TestExample(t *testing.T) {
	if got := Add(beforeP, Small(2)); got != Small(1) {
		t.Errorf("got %x", got)
	}
}

// P3.2: powers, of all four words too, as great numbers tell them.
func TestPow(t *testing.T) {
	for _, a := range append(samples(8), edges...) {
		for _, e := range append(samples(6), edges...) {
			if got := Pow(a, e); got != words(new(big.Int).Exp(number(a), number(e), theP)) {
				t.Errorf("%x to the power %x: got %x", a, e, got)
			}
		}
	}
}

// P3.2: a power of one bit only, at each place.
func TestPowBits(t *testing.T) {
	wanted := Small(3)
	for i := range 256 {
		var e [4]uint64
		e[i/64] = 1 << (i % 64)
		if got := Pow(Small(3), e); got != wanted {
			t.Errorf("3 to the power 2^%d: got %x", i, got)
		}
		wanted = Mul(wanted, wanted)
	}
}

// P3.2: to the power 0 every number is 1, 0 and p too; 0 to any other power is 0, for a power is not taken modulo p, nor p - 1.
func TestPowNothing(t *testing.T) {
	for _, a := range edges {
		if got := Pow(a, [4]uint64{}); got != Small(1) {
			t.Errorf("%x to the power 0: got %x", a, got)
		}
	}
	for _, e := range edges[1:] {
		if Pow(api.Fe{}, e) != (api.Fe{}) || Pow(atP, e) != (api.Fe{}) {
			t.Errorf("0, or p, to the power %x", e)
		}
	}
	if Pow(Small(7), atP) != Small(7) || Pow(Small(7), beforeP) != Small(1) {
		t.Error("7 to the power p, p - 1")
	}
}

// P3.2: what is inverted times itself is 1; of 0, and of p, it is 0.
func TestInvert(t *testing.T) {
	for _, a := range append(samples(200), edges...) {
		got := Invert(a)
		wanted := new(big.Int).ModInverse(number(a), theP)
		if wanted == nil {
			wanted = new(big.Int)
		} else if Mul(got, a) != Small(1) {
			t.Errorf("%x: the product with %x is none", a, got)
		}
		if got != words(wanted) {
			t.Errorf("%x: got %x", a, got)
		}
	}
	if Invert(api.Fe{}) != (api.Fe{}) || Invert(atP) != (api.Fe{}) || Invert(Small(1)) != Small(1) || Invert(beforeP) != beforeP {
		t.Error("0, p, 1, p - 1")
	}
}

// evenRoot answers what Root is to answer, as great numbers tell it.
func evenRoot(u, v api.Fe) (api.Fe, bool) {
	m, n := new(big.Int).Mod(number(u), theP), new(big.Int).Mod(number(v), theP)
	if m.Sign() == 0 {
		return api.Fe{}, true
	}
	if n.Sign() == 0 {
		return api.Fe{}, false
	}
	x := new(big.Int).ModInverse(n, theP)
	x.Mul(x, m).Mod(x, theP)
	if x.ModSqrt(x, theP) == nil {
		return api.Fe{}, false
	}
	if x.Bit(0) == 1 {
		x.Sub(theP, x)
	}
	return words(x), true
}

// checkRoot asks for one root, and holds it against what it is to be.
func checkRoot(t *testing.T, u, v api.Fe) bool {
	t.Helper()
	x, ok := Root(u, v)
	wanted, has := evenRoot(u, v)
	if x != wanted || ok != has {
		t.Errorf("u %x, v %x: got %x, %v, want %x, %v", u, v, x, ok, wanted, has)
	}
	if ok && (Mul(v, Mul(x, x)) != words(number(u)) || Odd(x) || !Right(x)) {
		t.Errorf("u %x, v %x: %x is no even root", u, v, x)
	}
	return ok
}

// P3.3: roots of all small numbers, where there are as many as there are not.
func TestRootOfSmall(t *testing.T) {
	count := 0
	for u := range uint64(40) {
		for v := range uint64(40) {
			if checkRoot(t, Small(u), Small(v)) {
				count++
			}
		}
	}
	if count < 700 || count > 900 {
		t.Errorf("%d of 1600 have a root", count)
	}
}

// P3.3: roots of numbers that may be p or more.
func TestRoot(t *testing.T) {
	all := append(samples(10), edges...)
	for _, u := range all {
		for _, v := range all {
			checkRoot(t, u, v)
		}
	}
}

// P3.3: of u 0, of v 0, of both; and p counts as 0.
func TestRootOfNothing(t *testing.T) {
	for _, zero := range []api.Fe{{}, atP, {full - 37, full, full, full}} {
		for _, other := range []api.Fe{Small(1), Small(2), Small(5), beforeP, behindP, allFull} {
			if x, ok := Root(zero, other); x != (api.Fe{}) || !ok {
				t.Errorf("u %x, v %x: got %x, %v", zero, other, x, ok)
			}
			if x, ok := Root(other, zero); x != (api.Fe{}) || ok {
				t.Errorf("u %x, v %x: got %x, %v", other, zero, x, ok)
			}
		}
		for _, another := range []api.Fe{{}, atP} {
			if x, ok := Root(zero, another); x != (api.Fe{}) || !ok {
				t.Errorf("u %x, v %x: got %x, %v", zero, another, x, ok)
			}
		}
	}
}

// P3.3: of both numbers it is the even one, whichever was squared; and twice the square has none, for 2 has none.
func TestRootIsEven(t *testing.T) {
	for i, x := range append(samples(100), edges...) {
		v := Small(uint64(i + 1))
		u := Mul(v, Mul(x, x))
		wanted := words(number(x))
		if Odd(wanted) {
			wanted = Neg(wanted)
		}
		if got, ok := Root(u, v); got != wanted || !ok {
			t.Errorf("%x squared, v %x: got %x, %v", x, v, got, ok)
		}
		if got, ok := Root(Mul(u, Small(2)), v); got != (api.Fe{}) || ok != (wanted == api.Fe{}) {
			t.Errorf("%x squared, twice, v %x: got %x, %v", x, v, got, ok)
		}
	}
	if x, ok := Root(Small(1), Small(1)); x != beforeP || !ok {
		t.Errorf("of 1: got %x, %v", x, ok)
	}
}

// P3.3: -1 has a root, as the one that is written out.
func TestRootOfMinusOne(t *testing.T) {
	x, ok := Root(beforeP, Small(1))
	if !ok || Mul(x, x) != beforeP {
		t.Errorf("got %x, %v", x, ok)
	}
	root := rootOfMinusOne()
	if root != Pow(Small(2), [4]uint64{full - 4, full, full, full >> 3}) || Mul(root, root) != beforeP {
		t.Errorf("written out is %x", root)
	}
}

// P3.4: sums and products in any order, rests that are put back, products that are divided, and powers that are added.
func TestAnyOrder(t *testing.T) {
	all := append(samples(10), edges...)
	for i, a := range all {
		b, c := all[(i*7+1)%len(all)], all[(i*11+3)%len(all)]
		for _, same := range [][2]api.Fe{
			{Add(a, b), Add(b, a)},
			{Mul(a, b), Mul(b, a)},
			{Add(Add(a, b), c), Add(a, Add(b, c))},
			{Mul(Mul(a, b), c), Mul(a, Mul(b, c))},
			{Mul(a, Add(b, c)), Add(Mul(a, b), Mul(a, c))},
			{Mul(a, Sub(b, c)), Sub(Mul(a, b), Mul(a, c))},
			{Add(Sub(a, b), b), Add(a, api.Fe{})},
			{Sub(a, b), Neg(Sub(b, a))},
			{Neg(Neg(a)), Mul(a, Small(1))},
			{Pow(Mul(a, b), c), Mul(Pow(a, c), Pow(b, c))},
			{Invert(Mul(a, b)), Mul(Invert(b), Invert(a))},
			{Invert(Invert(a)), Sub(a, atP)},
		} {
			if same[0] != same[1] || !Right(same[0]) {
				t.Errorf("of %x, %x, %x: %x and %x", a, b, c, same[0], same[1])
			}
		}
	}
}

// P3.4: what is written is read as it was, and what is read is written as it was.
func TestWrittenAndRead(t *testing.T) {
	for _, a := range append(samples(2000), edges...) {
		s := Bytes(a)
		got, ok := Make(s)
		if got != words(number(a)) || !ok || Right(a) != (got == a) {
			t.Errorf("%x: read as %x, %v", a, got, ok)
		}
		if Bytes(got) != s {
			t.Errorf("%x: written again as %x", s, Bytes(got))
		}
	}
}

// P2, P6: whatever the words, what is answered is below p.
func TestAnswersAreRight(t *testing.T) {
	all := append(samples(10), edges...)
	for _, a := range all {
		for _, b := range all {
			root, _ := Root(a, b)
			for i, got := range []api.Fe{Add(a, b), Sub(a, b), Neg(a), Mul(a, b), Pow(a, b), Invert(a), root, Small(a[0])} {
				if number(got).Cmp(theP) >= 0 {
					t.Errorf("call %d of %x, %x: got %x", i, a, b, got)
				}
			}
		}
	}
}

// P3: a text that is handed in is not kept, and each text that is answered is new memory.
func TestMemory(t *testing.T) {
	a := api.Fe{0x0807060504030201, 0x100f0e0d0c0b0a09, 0x1817161514131211, 0x201f1e1d1c1b1a19}
	handed := []byte(text(a))
	got, ok := Make(unsafe.String(&handed[0], len(handed)))
	if string(handed) != text(a) {
		t.Error("the text was written into")
	}
	clear(handed)
	if got != a || !ok {
		t.Errorf("got %x, %v", got, ok)
	}
	first, second := Bytes(got), Bytes(got)
	if first != second || unsafe.StringData(first) == unsafe.StringData(second) {
		t.Error("two answers share memory")
	}
}

// P4: what others do at the same time is not to be seen.
func TestAtOneTime(t *testing.T) {
	var wait sync.WaitGroup
	for _, a := range samples(8) {
		wait.Go(func() {
			for range 50 {
				if Mul(Invert(a), a) != Small(1) || Sub(Add(a, a), a) != words(number(a)) {
					t.Errorf("%x", a)
				}
			}
		})
	}
	wait.Wait()
}
