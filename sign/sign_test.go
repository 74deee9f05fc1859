package sign

import (
	"crypto/ed25519"
	"crypto/sha512"
	"encoding/hex"
	"math/big"
	"slices"
	"strings"
	"sync"
	"testing"
	"unsafe"

	"engrosser/api"
	"engrosser/point"
	"engrosser/sample"
)

// theL is the order of the base, theP what the numbers of its curve are below (chapters 4 and 3).
var (
	theL = new(big.Int).Add(power(252), decimal("27742317777372353535851937790883648493"))
	theP = new(big.Int).Sub(power(255), big.NewInt(19))
)

// power answers 2 to the power n.
func power(n int) *big.Int { return new(big.Int).Lsh(big.NewInt(1), uint(n)) }

// decimal answers the number of those digits.
func decimal(s string) *big.Int {
	n, ok := new(big.Int).SetString(s, 10)
	if !ok {
		panic("no number")
	}
	return n
}

// text answers the 32 bytes of n, the least first; value the number of such a text.
func text(n *big.Int) string {
	b := n.FillBytes(make([]byte, 32))
	for i := range 16 {
		b[i], b[31-i] = b[31-i], b[i]
	}
	return string(b)
}

func value(s string) *big.Int {
	n := new(big.Int)
	for i := len(s) - 1; i >= 0; i-- {
		n.Lsh(n, 8).Add(n, big.NewInt(int64(s[i])))
	}
	return n
}

// unhex answers the bytes of those digits.
func unhex(s string) string {
	b, err := hex.DecodeString(s)
	if err != nil {
		panic(err)
	}
	return string(b)
}

// flipped answers s with bit i turned over.
func flipped(s string, i int) string {
	b := []byte(s)
	b[i/8] ^= 1 << (i % 8)
	return string(b)
}

// libraryKey answers the public key of seed, and librarySign the signature of s, as Go's own library makes them.
func libraryKey(seed string) string {
	return string(ed25519.NewKeyFromSeed([]byte(seed))[32:])
}

func librarySign(seed, s string) string {
	return string(ed25519.Sign(ed25519.NewKeyFromSeed([]byte(seed)), []byte(s)))
}

// factor answers the chapter's k: the sum of a signature's first half, a public key and a text, modulo L.
func factor(first, public, s string) *big.Int {
	whole := sha512.Sum512([]byte(first + public + s))
	n := value(string(whole[:]))
	return n.Mod(n, theL)
}

// encoded answers the 32 bytes of p.
func encoded(t *testing.T, p api.Point) string {
	t.Helper()
	s, ok := point.Encode(p)
	if !ok {
		t.Fatalf("%x: not on the curve", p)
	}
	return s
}

// small answers the eight points that are Zero when they are taken 8 times: point i is the first one i times.
func small(t *testing.T) []api.Point {
	t.Helper()
	first, ok := point.Decode(unhex("26e8958fc2b227b045c3f489f2ef98f0d5dfac05d3c63339b13802886d53fc05"))
	if !ok {
		t.Fatal("no point")
	}
	all := []api.Point{point.Zero()}
	for range 7 {
		all = append(all, point.Add(all[len(all)-1], first))
	}
	return all
}

// someSeeds answers seeds of all kinds.
func someSeeds() []string {
	all := []string{strings.Repeat("\x00", 32), strings.Repeat("\xff", 32), strings.Repeat("\x80", 32), strings.Repeat("x", 32), "\x01" + strings.Repeat("\x00", 31), strings.Repeat("\x00", 31) + "\x01"}
	for i := range 20 {
		all = append(all, sample.Text(32, i))
	}
	return all
}

// known are the tests of RFC 8032, but for the one of 1023 bytes.
var known = []struct{ seed, public, text, sig string }{
	{
		"9d61b19deffd5a60ba844af492ec2cc44449c5697b326919703bac031cae7f60", "d75a980182b10ab7d54bfed3c964073a0ee172f3daa62325af021a68f707511a", "",
		"e5564300c360ac729086e2cc806e828a84877f1eb8e5d974d873e065224901555fb8821590a33bacc61e39701cf9b46bd25bf5f0595bbe24655141438e7a100b",
	},
	{
		"4ccd089b28ff96da9db6c346ec114e0f5b8a319f35aba624da8cf6ed4fb8a6fb", "3d4017c3e843895a92b70aa74d1b7ebc9c982ccf2ec4968cc0cd55f12af4660c", "72",
		"92a009a9f0d4cab8720e820b5f642540a2b27b5416503f8fb3762223ebdb69da085ac1e43e15996e458f3613d0f11d8c387b2eaeb4302aeeb00d291612bb0c00",
	},
	{
		"c5aa8df43f9f837bedb7442f31dcb7b166d38535076f094b85ce3a2e0b4458f7", "fc51cd8e6218a1a38da47ed00230f0580816ed13ba3303ac5deb911548908025", "af82",
		"6291d657deec24024827e69c3abe01a30ce548a284743a445e3680d7db5ac3ac18ff9b538d16f290ae67f760984dc6594a7c15e9716ed28dc027beceea1ec40a",
	},
	{
		"833fe62409237b9d62ec77587520911e9a759cec1d19755b7da901b96dca3d42", "ec172b93ad5e563bf4932c70e1245034c35467ef2efd4d64ebf819683467e2bf",
		"ddaf35a193617abacc417349ae20413112e6fa4e89a97ea20a9eeee64b55d39a2192992a274fc1a836ba3c23a3feebbd454d4423643ce80e2a9ac94fa54ca49f",
		"dc2a4459e7369633a52b1bf277839a00201009a3efbf3ecb69bea2186c26b58909351fc9ac90b3ecfdfbc7c66431e0303dca179c138ac17ad9bef1177331a704",
	},
}

// P6.1, P6.2: the tests of RFC 8032.
func TestKnown(t *testing.T) {
	for _, c := range known {
		seed, public, s, sig := unhex(c.seed), unhex(c.public), unhex(c.text), unhex(c.sig)
		if got, ok := Public(seed); got != public || !ok {
			t.Errorf("%s: the public key is %x, %v", c.seed, got, ok)
		}
		if got, ok := Sign(seed, s); got != sig || !ok {
			t.Errorf("%s: signed as %x, %v", c.seed, got, ok)
		}
		if !Verify(public, s, sig) {
			t.Errorf("%s: not verified", c.seed)
		}
	}
}

// P6.1: the chapter's example.
func TestExample(t *testing.T) {
	if got, ok := Public(unhex(known[0].seed)); !strings.HasPrefix(hex.EncodeToString([]byte(got)), "d75a9801") || !ok {
		t.Errorf("got %x, %v", got, ok)
	}
}

// P6.1: public keys of seeds of all kinds; each bit of a seed counts.
func TestPublic(t *testing.T) {
	all := someSeeds()
	for i := range 256 {
		all = append(all, flipped(sample.Text(32, 1), i))
	}
	for _, seed := range all {
		if got, ok := Public(seed); got != libraryKey(seed) || !ok {
			t.Errorf("%x: got %x, %v", seed, got, ok)
		}
	}
}

// P6.1: a text of any other length is no seed.
func TestNoSeed(t *testing.T) {
	for n := range 130 {
		if n == 32 {
			continue
		}
		for _, seed := range []string{sample.Text(n, 0), strings.Repeat("\x00", n), strings.Repeat(unhex(known[0].seed), 5)[:n]} {
			if got, ok := Public(seed); got != "" || ok {
				t.Errorf("%x: the public key is %x, %v", seed, got, ok)
			}
			for _, s := range []string{"", "x", seed} {
				if got, ok := Sign(seed, s); got != "" || ok {
					t.Errorf("%x: %x is signed as %x, %v", seed, s, got, ok)
				}
			}
		}
	}
}

// P6.1: signatures of texts of every length over several blocks of a sum.
func TestSign(t *testing.T) {
	for n := range 400 {
		seed, s := sample.Text(32, n), sample.Text(n, 1)
		if got, ok := Sign(seed, s); got != librarySign(seed, s) || !ok {
			t.Errorf("%d bytes: got %x, %v", n, got, ok)
		}
	}
}

// P6.1: each seed with texts of all kinds: of bytes that are no UTF-8, of a seed, a key, a signature, a long one.
func TestSignTexts(t *testing.T) {
	seed := sample.Text(32, 2)
	for _, s := range []string{"\x00", "\x80\xff\xfe", seed, libraryKey(seed), librarySign(seed, ""), strings.Repeat("\x00", 128), sample.Text(1<<20, 1)} {
		for _, seed := range someSeeds() {
			if got, ok := Sign(seed, s); got != librarySign(seed, s) || !ok {
				t.Errorf("%x, %d bytes: got %x, %v", seed, len(s), got, ok)
			}
			if len(s) > 1000 {
				break
			}
		}
	}
}

// P6.1: the second half is below L, and neither half is told by the other: what is signed twice is the same, other texts have other first halves.
func TestSignHalves(t *testing.T) {
	seen := map[string]bool{}
	for i := range 50 {
		sig, _ := Sign(sample.Text(32, 3), sample.Text(3, i))
		again, _ := Sign(sample.Text(32, 3), sample.Text(3, i))
		if len(sig) != 64 || sig != again || value(sig[32:]).Cmp(theL) >= 0 {
			t.Fatalf("%d: got %x, then %x", i, sig, again)
		}
		if seen[sig[:32]] {
			t.Errorf("%d: %x was the first half of another text", i, sig[:32])
		}
		seen[sig[:32]] = true
	}
}

// P6.2: what Go's own library signed is verified, with texts of every length; with another text, or another key, it is not.
func TestVerify(t *testing.T) {
	for n := range 270 {
		seed, s := sample.Text(32, n), sample.Text(n, 2)
		public, sig := libraryKey(seed), librarySign(seed, s)
		if !Verify(public, s, sig) {
			t.Errorf("%d bytes: not verified", n)
		}
		others := []string{s + "\x00", "\x00" + s, sample.Text(n+1, 2)}
		if n > 0 {
			others = append(others, s[1:], s[:n-1], flipped(s, n*5%(8*n)))
		}
		for _, other := range others {
			if Verify(public, other, sig) {
				t.Errorf("%x is verified with the signature of %x", other, s)
			}
		}
		if Verify(libraryKey(sample.Text(32, n+1)), s, sig) {
			t.Errorf("%d bytes: verified by the key of another seed", n)
		}
	}
	if s := sample.Text(1<<20, 3); !Verify(libraryKey(sample.Text(32, 1)), s, librarySign(sample.Text(32, 1), s)) {
		t.Error("2^20 bytes: not verified")
	}
}

// P6.2: each bit of a signature, of a key and of a text counts.
func TestVerifyBits(t *testing.T) {
	seed, s := sample.Text(32, 4), sample.Text(40, 4)
	public, sig := libraryKey(seed), librarySign(seed, s)
	for i := range 512 {
		if Verify(public, s, flipped(sig, i)) {
			t.Errorf("bit %d of the signature", i)
		}
	}
	for i := range 256 {
		if Verify(flipped(public, i), s, sig) {
			t.Errorf("bit %d of the key", i)
		}
	}
	for i := range 320 {
		if Verify(public, flipped(s, i), sig) {
			t.Errorf("bit %d of the text", i)
		}
	}
}

// P6.2: a signature has 64 bytes, a key 32: neither less nor more, nothing ahead, nothing behind.
func TestVerifyLengths(t *testing.T) {
	seed, s := sample.Text(32, 5), "a text"
	public, sig := libraryKey(seed), librarySign(seed, s)
	for n := range 200 {
		if n != 64 && (Verify(public, s, (sig + sig + sig + sig)[:n]) || Verify(public, s, sample.Text(n, 1)) || Verify(public, s, strings.Repeat("\x00", n))) {
			t.Errorf("a signature of %d bytes", n)
		}
		if n != 32 && (Verify(strings.Repeat(public, 7)[:n], s, sig) || Verify(sample.Text(n, 1), s, sig)) {
			t.Errorf("a key of %d bytes", n)
		}
	}
	for _, more := range []string{"\x00", "\xff", strings.Repeat("\x00", 32)} {
		if Verify(public, s, sig+more) || Verify(public, s, more+sig) || Verify(public+more, s, sig) || Verify(more+public, s, sig) {
			t.Errorf("with %x ahead or behind", more)
		}
	}
	if Verify("", "", "") || Verify(public, s, "") || Verify("", s, sig) || Verify(sig, s, public) {
		t.Error("nothing, or the wrong way round")
	}
}

// P6.2: one half in place of the other, or of another signature of the same seed, is none.
func TestVerifyHalves(t *testing.T) {
	seed := sample.Text(32, 6)
	public, one, two := libraryKey(seed), librarySign(seed, "one"), librarySign(seed, "two")
	if Verify(public, "one", one[32:]+one[:32]) || Verify(public, "one", one[:32]+two[32:]) || Verify(public, "one", two[:32]+one[32:]) || Verify(public, "one", two) {
		t.Error("halves that are not its own")
	}
	if Verify(public, "one", strings.Repeat("\x00", 64)) || Verify(public, "one", "\x01"+strings.Repeat("\x00", 63)) {
		t.Error("nothing as a signature")
	}
}

// P6.2: a second half of L or more is refused, though as often the base is the same point.
func TestVerifySecondHalf(t *testing.T) {
	for i := range 5 {
		seed, s := sample.Text(32, i), sample.Text(i, 7)
		public, sig := libraryKey(seed), librarySign(seed, s)
		for n := value(sig[32:]); n.Add(n, theL).BitLen() <= 256; {
			if Verify(public, s, sig[:32]+text(n)) {
				t.Errorf("%x: verified with the second half %x", sig, n)
			}
		}
	}
	// Of the key that is Zero a signature may have any second half.
	public := encoded(t, point.Zero())
	for i := int64(-3); i <= 3; i++ {
		for _, n := range []*big.Int{new(big.Int), theL, new(big.Int).Lsh(theL, 1), new(big.Int).Lsh(theL, 3), power(252), power(253), power(255)} {
			n = new(big.Int).Add(n, big.NewInt(i))
			if n.Sign() < 0 {
				continue
			}
			first := encoded(t, point.Mul(text(n), point.Base()))
			if got := Verify(public, "a text", first+text(n)); got != (n.Cmp(theL) < 0) {
				t.Errorf("%x as the second half: got %v", n, got)
			}
		}
	}
}

// P6.2: keys that have a small point in them, or are one, and first halves likewise: a signature is one, just if the k that is reduced tells the same small point. No point counts 8 times.
func TestVerifySmall(t *testing.T) {
	all, good, bad := small(t), 0, 0
	r := value(sample.Text(31, 8))
	for _, number := range []*big.Int{new(big.Int), value(sample.Text(31, 9))} {
		for i, part := range all {
			public := encoded(t, point.Add(point.Mul(text(number), point.Base()), part))
			for j := range all {
				first := encoded(t, point.Add(point.Mul(text(r), point.Base()), point.Neg(all[i*j%8])))
				for _, s := range []string{"", "a", "bc", "def"} {
					k := factor(first, public, s)
					second := new(big.Int).Mul(k, number)
					second.Add(second, r).Mod(second, theL)
					rest := int(new(big.Int).Mod(k, big.NewInt(8)).Int64())
					wanted := i*rest%8 == i*j%8
					if got := Verify(public, s, first+text(second)); got != wanted {
						t.Errorf("key %x, first half %x, text %q: got %v", public, first, s, got)
					}
					if wanted {
						good++
					} else {
						bad++
					}
				}
			}
		}
	}
	if good < 100 || bad < 100 {
		t.Errorf("%d are signatures, %d are not", good, bad)
	}
}

// otherwise are bytes that are not what Encode answers, each with the small point that they would be, if they were read without care: y not below p, or an x 0 that is said to be odd.
func otherwise(t *testing.T) map[string]api.Point {
	t.Helper()
	all := map[string]api.Point{}
	zeros, full := strings.Repeat("\x00", 31), strings.Repeat("\xff", 30)
	minus, ok := point.Decode("\xec" + full + "\x7f")
	root, ok2 := point.Decode(zeros + "\x00")
	if !ok || !ok2 {
		t.Fatal("no points")
	}
	all["\x01"+zeros[1:]+"\x80"] = point.Zero()
	all["\xee"+full+"\x7f"] = point.Zero()
	all["\xee"+full+"\xff"] = point.Zero()
	all["\xec"+full+"\xff"] = minus
	all["\xed"+full+"\x7f"] = root
	all["\xed"+full+"\xff"] = point.Neg(root)
	return all
}

// P6.2: a key that isn't written as Encode writes it is not Decoded, though its point, read without care, would fit.
func TestVerifyKeyOtherwise(t *testing.T) {
	count := 0
	for public, key := range otherwise(t) {
		right := encoded(t, key)
		first := encoded(t, point.Base())
		for i := range 20 {
			s := sample.Text(3, i)
			if value(right).Cmp(value(public)) == 0 {
				t.Fatalf("%x is Encode of its point", public)
			}
			if point.Mul(text(factor(first, public, s)), key) == point.Zero() {
				count++
			}
			if Verify(public, s, first+text(big.NewInt(1))) {
				t.Errorf("key %x, text %x: verified", public, s)
			}
			wanted := point.Mul(text(factor(first, right, s)), key) == point.Zero()
			if got := Verify(right, s, first+text(big.NewInt(1))); got != wanted {
				t.Errorf("key %x, text %x: got %v", right, s, got)
			}
		}
	}
	if count < 60 {
		t.Errorf("just %d would fit", count)
	}
}

// P6.2: keys that say no point at all.
func TestVerifyNoKey(t *testing.T) {
	count := 0
	first := encoded(t, point.Base())
	for i := range 64 {
		public := sample.Text(32, i)
		if i < 19 {
			public = text(new(big.Int).Add(theP, big.NewInt(int64(i))))
		}
		if _, ok := point.Decode(public); ok {
			continue
		}
		count++
		// Read as the point of nothing, or as Zero, any of these would be a key of this signature.
		for _, s := range []string{"", "a", "bc"} {
			if Verify(public, s, first+text(big.NewInt(1))) || Verify(public, s, "\x01"+strings.Repeat("\x00", 63)) || Verify(public, s, strings.Repeat("\x00", 64)) {
				t.Errorf("key %x: verified", public)
			}
		}
	}
	if count < 30 {
		t.Errorf("just %d keys are none", count)
	}
}

// P6.2: the first half is held against Encode byte by byte: otherwise written, its point doesn't count. The key has a small point in it, so that any small point may be what is wanted.
func TestVerifyFirstOtherwise(t *testing.T) {
	number := value(sample.Text(31, 10))
	public := encoded(t, point.Add(point.Mul(text(number), point.Base()), small(t)[1]))
	for first, p := range otherwise(t) {
		place, fits := slices.Index(small(t), p), 0
		for i := range 60 {
			s := sample.Text(4, i)
			k := factor(first, public, s)
			second := new(big.Int).Mul(k, number)
			if Verify(public, s, first+text(second.Mod(second, theL))) {
				t.Errorf("first half %x, text %x: verified", first, s)
			}
			if k.Add(k, big.NewInt(int64(place))).Mod(k, big.NewInt(8)).Sign() == 0 {
				fits++
			}
		}
		if place < 0 || fits == 0 {
			t.Errorf("%x: would fit no text", first)
		}
	}
}

// P6.2: a key turned, or a second half turned, is another one.
func TestVerifyTurned(t *testing.T) {
	seed, s := sample.Text(32, 11), "a text"
	sig := librarySign(seed, s)
	key, _ := point.Decode(libraryKey(seed))
	if Verify(encoded(t, point.Neg(key)), s, sig) || Verify(libraryKey(seed), s, sig[:32]+text(new(big.Int).Sub(theL, value(sig[32:])))) || Verify(libraryKey(seed), s, flipped(sig, 255)) {
		t.Error("verified")
	}
}

// P6.3: what is signed is verified by the public key of the seed, and by no other; Go's own library says so, too.
func TestSigned(t *testing.T) {
	seeds := someSeeds()
	for i, seed := range seeds {
		public, ok := Public(seed)
		other, _ := Public(seeds[(i+1)%len(seeds)])
		if !ok || len(public) != 32 {
			t.Fatalf("%x: the public key is %x, %v", seed, public, ok)
		}
		for _, s := range []string{"", "x", seed, public, sample.Text(100+i, i), sample.Text(1000, i)} {
			sig, ok := Sign(seed, s)
			if !ok || !Verify(public, s, sig) || !ed25519.Verify([]byte(public), []byte(s), []byte(sig)) {
				t.Errorf("%x, %x: not verified", seed, s)
			}
			if Verify(other, s, sig) || Verify(public, s+"x", sig) {
				t.Errorf("%x, %x: verified by another key, or with another text", seed, s)
			}
		}
	}
}

// P3: what is handed in is not written into, nor what stands behind it, nor kept; each answer is new memory.
func TestTextsAreNotKept(t *testing.T) {
	seed, s := sample.Text(32, 12), sample.Text(200, 12)
	sig := librarySign(seed, s)
	whole := seed + s + libraryKey(seed) + sig + sample.Text(32, 13)
	memory := []byte(whole)
	at := func(from, size int) string { return unsafe.String(&memory[from], size) }
	public, _ := Public(at(0, 32))
	one, _ := Sign(at(0, 32), at(32, 200))
	two, _ := Sign(at(0, 32), at(32, 200))
	if !Verify(at(232, 32), at(32, 200), at(264, 64)) {
		t.Error("not verified")
	}
	if string(memory) != whole {
		t.Error("written into")
	}
	clear(memory)
	if public != libraryKey(seed) || one != sig || two != sig {
		t.Error("kept")
	}
	if unsafe.StringData(one) == unsafe.StringData(two) {
		t.Error("two answers share memory")
	}
}

// P4: what was asked ahead, and what others ask at the same time, is not to be seen.
func TestAtOneTime(t *testing.T) {
	var wait sync.WaitGroup
	for i := range 8 {
		wait.Go(func() {
			for j := range 10 {
				seed, s := sample.Text(32, i*10+j), sample.Text(50*j, i)
				sig, ok := Sign(seed, s)
				public, _ := Public(seed)
				if sig != librarySign(seed, s) || !ok || public != libraryKey(seed) || !Verify(public, s, sig) || Verify(public, s+"x", sig) {
					t.Errorf("%x, %x: got %x", seed, s, sig)
				}
			}
		})
	}
	wait.Wait()
}
