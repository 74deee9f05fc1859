package point

import (
	"crypto/ed25519"
	"crypto/sha512"
	"encoding/hex"
	"math/big"
	"strings"
	"sync"
	"testing"
	"unsafe"

	"engrosser/api"
	"engrosser/field"
	"engrosser/sample"
	"engrosser/scalar"
)

const full = 1<<64 - 1

// The chapters' p and L, D as chapter 5 tells it, and theI, a root of -1.
var (
	theP = new(big.Int).Sub(power(255), big.NewInt(19))
	theL = new(big.Int).Add(power(252), decimal("27742317777372353535851937790883648493"))
	theD = modulo(times(big.NewInt(-121665), inverse(big.NewInt(121666))))
	theI = new(big.Int).Exp(big.NewInt(2), new(big.Int).Rsh(theP, 2), theP)
)

// power answers 2 to the power n.
func power(n int) *big.Int { return new(big.Int).Lsh(big.NewInt(1), uint(n)) }

// decimal answers the number of those digits.
func decimal(s string) *big.Int {
	n, ok := new(big.Int).SetString(s, 10)
	if !ok {
		panic("no number")
	}
	return n
}

// modulo answers n modulo p.
func modulo(n *big.Int) *big.Int { return new(big.Int).Mod(n, theP) }

// times answers all of them multiplied, modulo p.
func times(all ...*big.Int) *big.Int {
	n := big.NewInt(1)
	for _, m := range all {
		n = modulo(n.Mul(n, m))
	}
	return n
}

// sum answers a + b modulo p, rest a - b.
func sum(a, b *big.Int) *big.Int  { return modulo(new(big.Int).Add(a, b)) }
func rest(a, b *big.Int) *big.Int { return modulo(new(big.Int).Sub(a, b)) }

// inverse answers 1 divided by n, modulo p.
func inverse(n *big.Int) *big.Int { return new(big.Int).ModInverse(n, theP) }

// great answers the number of a's words, fe the words of n, which is below 2^256.
func great(a api.Fe) *big.Int {
	n := new(big.Int)
	for i := 3; i >= 0; i-- {
		n.Lsh(n, 64).Or(n, new(big.Int).SetUint64(a[i]))
	}
	return n
}

func fe(n *big.Int) (a api.Fe) {
	for i := range a {
		a[i] = new(big.Int).Rsh(n, uint(64*i)).Uint64()
	}
	return a
}

// text answers the bytes of n, the least first, in so many bytes; value the number of such a text.
func text(n *big.Int, size int) string {
	b := n.FillBytes(make([]byte, size))
	for i := range size / 2 {
		b[i], b[size-1-i] = b[size-1-i], b[i]
	}
	return string(b)
}

func value(s string) *big.Int {
	n := new(big.Int)
	for i := len(s) - 1; i >= 0; i-- {
		n.Lsh(n, 8).Add(n, big.NewInt(int64(s[i])))
	}
	return n
}

// unhex answers the bytes of those digits.
func unhex(s string) string {
	b, err := hex.DecodeString(s)
	if err != nil {
		panic(err)
	}
	return string(b)
}

// onCurve tells what On is to tell.
func onCurve(p api.Point) bool {
	x, y := great(p.X), great(p.Y)
	if x.Cmp(theP) >= 0 || y.Cmp(theP) >= 0 {
		return false
	}
	return rest(times(y, y), times(x, x)).Cmp(sum(big.NewInt(1), times(theD, x, x, y, y))) == 0
}

// zero answers the point that counts for those that aren't on the curve, told by its numbers.
func zero() api.Point { return api.Point{Y: api.Fe{1}} }

// added answers what Add is to answer: the chapter's own sum, in great numbers.
func added(p, q api.Point) api.Point {
	if !onCurve(p) {
		p = zero()
	}
	if !onCurve(q) {
		q = zero()
	}
	x1, y1, x2, y2 := great(p.X), great(p.Y), great(q.X), great(q.Y)
	k := times(theD, x1, x2, y1, y2)
	x := times(sum(times(x1, y2), times(x2, y1)), inverse(sum(big.NewInt(1), k)))
	y := times(sum(times(y1, y2), times(x1, x2)), inverse(rest(big.NewInt(1), k)))
	return api.Point{X: fe(x), Y: fe(y)}
}

// multiplied answers what Mul is to answer: p added as often as the first 32 bytes of s say.
func multiplied(s string, p api.Point) api.Point {
	n := value(s[:min(len(s), 32)])
	all := zero()
	for i := n.BitLen() - 1; i >= 0; i-- {
		all = added(all, all)
		if n.Bit(i) == 1 {
			all = added(all, p)
		}
	}
	return all
}

// read answers the point of those 32 bytes, in hex.
func read(t *testing.T, s string) api.Point {
	t.Helper()
	p, ok := Decode(unhex(s))
	if !ok || !onCurve(p) {
		t.Fatalf("%s: got %x, %v", s, p, ok)
	}
	return p
}

// small answers the eight points that are Zero when they are taken 8 times.
func small(t *testing.T) []api.Point {
	all := []api.Point{zero()}
	first := read(t, "26e8958fc2b227b045c3f489f2ef98f0d5dfac05d3c63339b13802886d53fc05")
	for range 7 {
		all = append(all, added(all[len(all)-1], first))
	}
	return all
}

// points answers some of all kinds: small ones, multiples of the base, sums of both, and others.
func points(t *testing.T) []api.Point {
	all := small(t)
	b := Base()
	for _, s := range []string{"\x01", "\x02", "\x03", "\x08", text(new(big.Int).Sub(theL, big.NewInt(1)), 32), sample.Text(32, 1)} {
		all = append(all, multiplied(s, b))
	}
	all = append(all, added(all[3], b), added(all[2], all[9]), added(all[4], all[13]))
	for i := 0; len(all) < 22; i++ {
		if p, ok := Decode(sample.Text(31, i) + "\x33"); ok {
			all = append(all, p)
		}
	}
	return all
}

// strangers answers what isn't on the curve; of some both numbers would be right, if they were taken modulo p.
func strangers(t *testing.T) []api.Point {
	b := Base()
	all := []api.Point{
		{}, {X: api.Fe{1}}, {X: api.Fe{1}, Y: api.Fe{1}}, {X: api.Fe{3}}, {Y: api.Fe{2}}, {X: b.X}, {Y: b.Y}, {X: b.Y, Y: b.X}, {X: b.X, Y: b.X},
		{X: api.Fe{full, full, full, full}, Y: api.Fe{full, full, full, full}}, {X: api.Fe{1}, Y: api.Fe{0, 0, 0, 1 << 63}},
	}
	for _, p := range []api.Point{b, zero(), small(t)[4], small(t)[2], read(t, hex.EncodeToString([]byte(text(big.NewInt(3), 32))))} {
		for n := int64(1); n <= 2; n++ {
			more := new(big.Int).Mul(theP, big.NewInt(n))
			x, y := new(big.Int).Add(great(p.X), more), new(big.Int).Add(great(p.Y), more)
			if x.BitLen() <= 256 {
				all = append(all, api.Point{X: fe(x), Y: p.Y})
			}
			if y.BitLen() <= 256 {
				all = append(all, api.Point{X: p.X, Y: fe(y)})
			}
			if x.BitLen() <= 256 && y.BitLen() <= 256 {
				all = append(all, api.Point{X: fe(x), Y: fe(y)})
			}
		}
	}
	return all
}

// P5.1: D is the quotient, and has no root.
func TestD(t *testing.T) {
	d := D()
	if great(d).Cmp(theD) != 0 || !field.Right(d) || field.Mul(d, field.Small(121666)) != field.Neg(field.Small(121665)) {
		t.Errorf("got %x", d)
	}
	if field.Bytes(d) != unhex("a3785913ca4deb75abd841414d0a700098e879777940c78c73fe6f2bee6c0352") {
		t.Errorf("written: got %x", field.Bytes(d))
	}
	if _, ok := field.Root(d, field.Small(1)); ok {
		t.Error("has a root")
	}
}

// P5.1: Zero, and the base: y is 4 divided by 5, x is the even one.
func TestGivenPoints(t *testing.T) {
	if Zero() != zero() || !On(Zero()) {
		t.Errorf("Zero: got %x", Zero())
	}
	b := Base()
	if !onCurve(b) || !On(b) || field.Mul(b.Y, field.Small(5)) != field.Small(4) || b.X[0]%2 != 0 {
		t.Errorf("Base: got %x", b)
	}
	if great(b.X).Cmp(decimal("15112221349535400772501151409588531511454012693041857206046113283949847762202")) != 0 || great(b.Y).Cmp(decimal("46316835694926478169428394003475163141307993866256225615783033603165251855960")) != 0 {
		t.Errorf("Base: got %x", b)
	}
}

// P5.1: points are on the curve; those with another bit are not, but for the few that are.
func TestOn(t *testing.T) {
	for _, p := range points(t) {
		if !On(p) || !onCurve(p) {
			t.Errorf("%x: not on the curve", p)
		}
		for i := range 512 {
			q := p
			if i < 256 {
				q.X[i/64] ^= 1 << (i % 64)
			} else {
				q.Y[i/64-4] ^= 1 << (i % 64)
			}
			if got := On(q); got != onCurve(q) {
				t.Errorf("%x: got %v", q, got)
			}
		}
	}
}

// P5.1: what isn't on the curve; numbers of p and more too, even where they say a point modulo p.
func TestNotOn(t *testing.T) {
	all := strangers(t)
	if len(all) < 25 {
		t.Errorf("just %d of them", len(all))
	}
	for _, p := range all {
		if On(p) || onCurve(p) {
			t.Errorf("%x is on the curve", p)
		}
	}
}

// P5.1: with x and y each of a few numbers about 0, p and 2^255.
func TestOnOfEdges(t *testing.T) {
	var all []*big.Int
	for i := range int64(6) {
		all = append(all, big.NewInt(i), new(big.Int).Sub(theP, big.NewInt(i)), new(big.Int).Add(theP, big.NewInt(i)), new(big.Int).Add(power(255), big.NewInt(i)), new(big.Int).Sub(power(256), big.NewInt(i+1)), new(big.Int).Add(theP, new(big.Int).Add(theP, big.NewInt(i))))
	}
	all = append(all, theI, rest(theP, theI), new(big.Int).Add(theI, theP))
	count := 0
	for _, x := range all {
		for _, y := range all {
			p := api.Point{X: fe(x), Y: fe(y)}
			if On(p) != onCurve(p) {
				t.Errorf("%x: got %v", p, On(p))
			}
			if On(p) {
				count++
			}
		}
	}
	if count != 4 { // x 0 with y 1 and -1; y 0 with both roots of -1
		t.Errorf("%d of them are on the curve", count)
	}
}

// P5.1: what isn't on the curve counts as Zero, at each place.
func TestStrangersAreZero(t *testing.T) {
	for _, p := range strangers(t) {
		for _, q := range []api.Point{Base(), zero(), small(t)[1]} {
			if Add(p, q) != q || Add(q, p) != q {
				t.Errorf("%x added to %x: got %x, %x", p, q, Add(p, q), Add(q, p))
			}
		}
		if Add(p, p) != zero() || Neg(p) != zero() {
			t.Errorf("%x: added to itself %x, turned %x", p, Add(p, p), Neg(p))
		}
		for _, s := range []string{"", "\x00", "\x01", "\x02", sample.Text(32, 3)} {
			if got := Mul(s, p); got != zero() {
				t.Errorf("%x times %x: got %x", p, s, got)
			}
		}
		if s, ok := Encode(p); s != "" || ok {
			t.Errorf("%x: encoded as %x, %v", p, s, ok)
		}
	}
	all := strangers(t)
	for i, p := range all {
		if got := Add(p, all[(i*7+1)%len(all)]); got != zero() {
			t.Errorf("%x and another stranger: got %x", p, got)
		}
	}
}

// P5.2: sums of every two, of the same and of opposite ones too, as the chapter reckons them.
func TestAdd(t *testing.T) {
	all := points(t)
	for _, p := range all {
		for _, q := range all {
			if got := Add(p, q); got != added(p, q) || !On(got) {
				t.Errorf("%x and %x: got %x", p, q, got)
			}
		}
		if got := Add(p, p); got != added(p, p) {
			t.Errorf("%x twice: got %x", p, got)
		}
	}
}

// P5.2: the chapter's example.
func TestExample(t *testing.T) {
	if Add(Base(), Zero()) != Base() {
		t.Error("the base and Zero")
	}
}

// P5.2: x is turned, y stays.
func TestNeg(t *testing.T) {
	for _, p := range points(t) {
		got := Neg(p)
		if great(got.X).Cmp(rest(theP, great(p.X))) != 0 || got.Y != p.Y || !On(got) {
			t.Errorf("%x: got %x", p, got)
		}
	}
	two := api.Point{Y: fe(new(big.Int).Sub(theP, big.NewInt(1)))}
	if Neg(Zero()) != Zero() || Neg(two) != two {
		t.Error("Zero, and y -1")
	}
}

// P5.2: as often as a small number says.
func TestMulSmall(t *testing.T) {
	for _, p := range points(t) {
		wanted := zero()
		for n := range int64(300) {
			if n > 40 && n < 250 {
				wanted = Add(wanted, p)
				continue
			}
			if got := Mul(text(big.NewInt(n), 2), p); got != wanted {
				t.Errorf("%x times %d: got %x", p, n, got)
			}
			wanted = added(wanted, p)
		}
	}
}

// P5.2: great numbers, of L and more too: they are not taken modulo L, which small points would tell.
func TestMul(t *testing.T) {
	var all []string
	for _, n := range []*big.Int{new(big.Int), theL, new(big.Int).Lsh(theL, 1), new(big.Int).Lsh(theL, 3), theP, power(64), power(128), power(252), power(253), power(254), power(255)} {
		for i := int64(-1); i <= 1; i++ {
			if m := new(big.Int).Add(n, big.NewInt(i)); m.Sign() >= 0 {
				all = append(all, text(m, 32))
			}
		}
	}
	all = append(all, strings.Repeat("\xff", 32), strings.Repeat("\xf0", 32), strings.Repeat("\x0f", 32), strings.Repeat("\xfe\xdc\xba\x98\x76\x54\x32\x10", 4), sample.Text(32, 4), sample.Text(32, 5))
	few := points(t)
	for i, s := range all {
		for _, p := range []api.Point{Base(), few[1], few[15], few[8+i%14], few[i%8]} {
			if got := Mul(s, p); got != multiplied(s, p) || !On(got) {
				t.Errorf("%x times %x: got %x", p, s, got)
			}
		}
	}
	for i, p := range small(t) {
		if got, wanted := Mul(text(theL, 32), p), small(t)[i*5%8]; got != wanted {
			t.Errorf("%x times L: got %x", p, got)
		}
	}
}

// P5.2: a bit alone, at each place; those of bytes behind the 32nd one don't count.
func TestMulBits(t *testing.T) {
	wanted := Base()
	for i := range 300 {
		got := Mul(text(power(i), 40), Base())
		if i >= 256 && got != zero() || i < 256 && got != wanted {
			t.Errorf("2^%d: got %x", i, got)
		}
		wanted = added(wanted, wanted)
	}
}

// P5.2: texts of every length: short ones count as they are, of long ones the first 32 bytes do.
func TestMulLengths(t *testing.T) {
	p := points(t)[16]
	for n := range 70 {
		for _, s := range []string{sample.Text(n, 6), strings.Repeat("\xff", n), strings.Repeat("\x00", n)} {
			got := Mul(s, p)
			if n%8 < 2 && got != multiplied(s, p) || got != Mul(s[:min(n, 32)]+strings.Repeat("\x00", 32-min(n, 32)), p) {
				t.Errorf("%x: got %x", s, got)
			}
		}
	}
	if s := sample.Text(32, 7); Mul(s+"\x01", p) != Mul(s, p) || Mul(s+sample.Text(1<<20, 8), p) != Mul(s, p) || Mul(s[:31], p) == Mul(s, p) {
		t.Error("33 bytes, 2^20 more, 31")
	}
	if Mul("", p) != zero() || Mul("", Base()) != zero() || Mul(strings.Repeat("\x00", 40)+"\x01", p) != zero() {
		t.Error("0 times")
	}
}

// P5.2, P5.3: public keys, as Go's own library makes them.
func TestPublicKeys(t *testing.T) {
	for i := range 40 {
		seed := sample.Text(32, i)
		half := sha512.Sum512([]byte(seed))
		number, _ := scalar.Clamp(string(half[:32]))
		wanted := string(ed25519.NewKeyFromSeed([]byte(seed))[32:])
		p := Mul(number, Base())
		if got, ok := Encode(p); got != wanted || !ok {
			t.Errorf("%x: got %x, %v, want %x", seed, got, ok, wanted)
		}
		if got, ok := Decode(wanted); got != p || !ok {
			t.Errorf("%x: decoded as %x, %v", wanted, got, ok)
		}
		if got := Mul(scalar.Reduce(number), Base()); got != p {
			t.Errorf("%x: reduced ahead it is %x", number, got)
		}
	}
}

// P5.3: known bytes of the base's multiples, and of small points.
func TestEncodeKnown(t *testing.T) {
	for i, wanted := range []string{
		"0100000000000000000000000000000000000000000000000000000000000000",
		"5866666666666666666666666666666666666666666666666666666666666666",
		"c9a3f86aae465f0e56513864510f3997561fa2c9e85ea21dc2292309f3cd6022",
		"d4b4f5784868c3020403246717ec169ff79e26608ea126a1ab69ee77d1b16712",
	} {
		p := Mul(string([]byte{byte(i)}), Base())
		if s, ok := Encode(p); s != unhex(wanted) || !ok {
			t.Errorf("%d times the base: got %x, %v", i, s, ok)
		}
	}
	nothing := strings.Repeat("\x00", 31)
	minusOne := "\xec" + strings.Repeat("\xff", 30)
	for _, c := range []struct {
		p api.Point
		s string
	}{
		{zero(), "\x01" + nothing},
		{api.Point{Y: fe(rest(theP, big.NewInt(1)))}, minusOne + "\x7f"},
		{api.Point{X: fe(theI)}, nothing + string([]byte{byte(theI.Bit(0) << 7)})},
		{api.Point{X: fe(rest(theP, theI))}, nothing + string([]byte{byte((1 - theI.Bit(0)) << 7)})},
		{Neg(Base()), "\x58" + strings.Repeat("\x66", 30) + "\xe6"},
	} {
		if s, ok := Encode(c.p); s != c.s || !ok {
			t.Errorf("%x: got %x, %v", c.p, s, ok)
		}
		if p, ok := Decode(c.s); p != c.p || !ok {
			t.Errorf("%x: got %x, %v", c.s, p, ok)
		}
	}
}

// P5.3: y in 32 bytes, and the highest bit just if x is odd; read it is the same point.
func TestEncode(t *testing.T) {
	odd := 0
	for _, p := range points(t) {
		s, ok := Encode(p)
		wanted := new(big.Int).Add(great(p.Y), new(big.Int).Mul(power(255), big.NewInt(int64(p.X[0]%2))))
		if s != text(wanted, 32) || !ok {
			t.Errorf("%x: got %x, %v", p, s, ok)
		}
		if q, ok := Decode(s); q != p || !ok {
			t.Errorf("%x: read as %x, %v", s, q, ok)
		}
		odd += int(p.X[0] % 2)
	}
	if odd < 5 || odd > 17 {
		t.Errorf("%d of %d are odd", odd, len(points(t)))
	}
}

// decoded answers what Decode is to answer, in great numbers.
func decoded(s string) (api.Point, bool) {
	if len(s) != 32 {
		return api.Point{}, false
	}
	y, bit := value(s), value(s).Bit(255)
	y.SetBit(y, 255, 0)
	if y.Cmp(theP) >= 0 {
		return api.Point{}, false
	}
	yy := times(y, y)
	x := times(rest(yy, big.NewInt(1)), inverse(sum(times(theD, yy), big.NewInt(1))))
	if x.ModSqrt(x, theP) == nil || x.Sign() == 0 && bit == 1 {
		return api.Point{}, false
	}
	if x.Bit(0) != bit {
		x = rest(theP, x)
	}
	return api.Point{X: fe(x), Y: fe(y)}, true
}

// checkDecode asks for one text with the highest bit, and without, and tells whether there is a point.
func checkDecode(t *testing.T, s string) bool {
	t.Helper()
	is := false
	for _, bit := range []byte{0, 0x80} {
		s := s[:31] + string([]byte{s[31]&0x7f | bit})
		got, ok := Decode(s)
		wanted, has := decoded(s)
		if got != wanted || ok != has {
			t.Errorf("%x: got %x, %v, want %x, %v", s, got, ok, wanted, has)
		}
		if again, written := Encode(got); ok && (again != s || !written || int(got.X[0]%2) != int(bit>>7)) {
			t.Errorf("%x: written again as %x, %v", s, again, written)
		}
		is = is || ok
	}
	return is
}

// P5.3: small y, and y up to p - 1, of which about half have an x.
func TestDecode(t *testing.T) {
	count := 0
	for i := range int64(200) {
		for _, y := range []*big.Int{big.NewInt(i), new(big.Int).Sub(theP, big.NewInt(i+1)), modulo(value(sample.Text(32, int(i))))} {
			if checkDecode(t, text(y, 32)) {
				count++
			}
		}
	}
	if count < 250 || count > 350 {
		t.Errorf("%d of 600 have an x", count)
	}
}

// P5.3: y that is not below p is refused, with the bit and without, though modulo p it may be one that has an x.
func TestDecodeGreat(t *testing.T) {
	for i := range int64(19) {
		for _, bit := range []uint{0, 1} {
			y := new(big.Int).Add(theP, big.NewInt(i))
			y.SetBit(y, 255, bit)
			if p, ok := Decode(text(y, 32)); ok || p != (api.Point{}) {
				t.Errorf("p + %d, bit %d: got %x, %v", i, bit, p, ok)
			}
		}
	}
}

// P5.3: x 0 isn't odd, nor is there an x for each y; each such answer is nothing.
func TestDecodeNothing(t *testing.T) {
	zeros := strings.Repeat("\x00", 30)
	for _, s := range []string{
		"\x01" + zeros + "\x80", "\xec" + strings.Repeat("\xff", 31), "\x02" + zeros + "\x00", "\x02" + zeros + "\x80",
		strings.Repeat("\xff", 32), "\xed" + strings.Repeat("\xff", 30) + "\x7f", "\xee" + strings.Repeat("\xff", 31),
	} {
		if p, ok := Decode(s); ok || p != (api.Point{}) {
			t.Errorf("%x: got %x, %v", s, p, ok)
		}
	}
}

// P5.3: a text of any other length is nothing.
func TestDecodeLengths(t *testing.T) {
	b, _ := Encode(Base())
	for n := range 100 {
		for _, s := range []string{strings.Repeat("\x66", n), strings.Repeat("\x00", n), (b + b + b + b)[:n], "\x01" + strings.Repeat("\x00", n)} {
			if p, ok := Decode(s); len(s) != 32 && (ok || p != (api.Point{})) {
				t.Errorf("%x: got %x, %v", s, p, ok)
			}
		}
	}
}

// P5.4: Add is in any order, Zero is nothing, Neg turns back.
func TestGroup(t *testing.T) {
	all := points(t)
	for i, p := range all {
		for j, q := range all {
			o := all[(i*5+j*3+1)%len(all)]
			if Add(p, q) != Add(q, p) || Add(Add(p, q), o) != Add(p, Add(q, o)) {
				t.Errorf("%x, %x, %x in another order", p, q, o)
			}
			if Add(Add(p, q), Neg(q)) != p || Neg(Add(p, q)) != Add(Neg(p), Neg(q)) {
				t.Errorf("%x, %x: turned back", p, q)
			}
		}
		if Add(p, Zero()) != p || Add(Zero(), p) != p || Add(p, Neg(p)) != Zero() || Neg(Neg(p)) != p {
			t.Errorf("%x: with Zero, turned, turned twice", p)
		}
	}
}

// P5.4: L times the base is Zero, and so are all multiples of it.
func TestOrder(t *testing.T) {
	b := Base()
	for _, n := range []int64{0, 1, 2, 3, 8, 15} {
		m := new(big.Int).Mul(theL, big.NewInt(n))
		if got := Mul(text(m, 32), b); got != Zero() {
			t.Errorf("%d L times: got %x", n, got)
		}
		if got := Mul(text(m.Add(m, big.NewInt(1)), 32), b); got != b {
			t.Errorf("%d L and 1 times: got %x", n, got)
		}
	}
	if got := Mul(text(new(big.Int).Sub(theL, big.NewInt(1)), 32), b); got != Neg(b) {
		t.Errorf("L - 1 times: got %x", got)
	}
	for _, p := range points(t) {
		if got := Mul(text(new(big.Int).Lsh(theL, 3), 32), p); got != Zero() {
			t.Errorf("%x 8 L times: got %x", p, got)
		}
	}
}

// P5.4: so many times and so many times more; times of times; times of sums.
func TestMultiples(t *testing.T) {
	b := Base()
	all := points(t)
	for i := range 20 {
		m, n := sample.Text(32, i), sample.Text(i+1, 30)
		p, q := all[i], all[(i*3+8)%len(all)]
		sum := scalar.MulAdd(m, "\x01", n)
		if Add(Mul(m, b), Mul(n, b)) != Mul(sum, b) {
			t.Errorf("%x times, and %x times", m, n)
		}
		if Mul(m, Mul(n, b)) != Mul(scalar.MulAdd(m, n, ""), b) || Mul(m, Mul(n, p)) != Mul(n, Mul(m, p)) {
			t.Errorf("%x times %x times", m, n)
		}
		if Mul(m, Add(p, q)) != Add(Mul(m, p), Mul(m, q)) || Mul(m, Neg(p)) != Neg(Mul(m, p)) {
			t.Errorf("%x times %x and %x", m, p, q)
		}
	}
}

// P5.2, P3: a point in reckoning is the same, whatever its z.
func TestReckoned(t *testing.T) {
	all := points(t)
	for i, p := range all {
		q, z := all[(i*3+1)%len(all)], field.Small(uint64(i+2))
		m := reckoned{field.Mul(p.X, z), field.Mul(p.Y, z), z}
		z = field.Neg(z)
		n := reckoned{field.Mul(q.X, z), field.Mul(q.Y, z), z}
		for j, same := range [][2]api.Point{
			{m.plain(), p}, {m.plus(n).plain(), added(p, q)}, {m.twice().plain(), added(p, p)}, {m.plus(m).plain(), added(p, p)}, {m.times16().plain(), multiplied("\x10", p)},
		} {
			if same[0] != same[1] {
				t.Errorf("%x, %x, %d: got %x", p, q, j, same[0])
			}
		}
	}
}

// P3: a text that is handed in is not written into, nor what stands behind it, nor kept; nor does an answer share memory with another.
func TestTextIsNotKept(t *testing.T) {
	s, _ := Encode(Neg(Base()))
	kept := s + sample.Text(32, 1)
	memory := []byte(kept)
	handed := unsafe.String(&memory[0], 32)
	p, ok := Decode(handed)
	q := Mul(unsafe.String(&memory[0], 64), p)
	if string(memory) != kept {
		t.Error("written into")
	}
	clear(memory)
	if p != Neg(Base()) || !ok || q != Mul(s, p) {
		t.Error("kept")
	}
	one, _ := Encode(p)
	two, _ := Encode(p)
	if unsafe.StringData(one) == unsafe.StringData(two) {
		t.Error("two answers share memory")
	}
}

// P4: what others do at the same time is not to be seen.
func TestAtOneTime(t *testing.T) {
	few := points(t)
	var wait sync.WaitGroup
	for i := range 8 {
		wait.Go(func() {
			for j := range 4 {
				p, s := few[i+j], sample.Text(32, i)
				if Mul(s, p) != multiplied(s, p) || Add(p, few[j]) != added(p, few[j]) {
					t.Errorf("%x, %x", p, s)
				}
			}
		})
	}
	wait.Wait()
}
