package deflate_test

import (
	"compress/flate"
	"encoding/hex"
	"io"
	"slices"
	"strings"
	"sync"
	"testing"
	"unsafe"

	"engrosser/api"
	"engrosser/byhand"
	"engrosser/deflate"
	"engrosser/inflate"
	"engrosser/sample"
)

const pieceSize = 32768

// inHex answers s in hex, or its beginning.
func inHex(s string) string {
	if len(s) > 40 {
		return hex.EncodeToString([]byte(s[:40])) + ".."
	}
	return hex.EncodeToString([]byte(s))
}

// checkPack holds Pack of s against the chapter's words, bit by bit, and answers how many blocks are of each kind.
func checkPack(t *testing.T, s string) [3]int {
	t.Helper()
	want, kinds := byhand.Pack(s, pieceSize, byhand.KindAny)
	if got := deflate.Pack(s); got != want {
		t.Errorf("Pack(%s), %d bytes: got %s, not %s (%d bytes, not %d)", inHex(s), len(s), inHex(got), inHex(want), len(got), len(want))
	}
	return kinds
}

// checkKind: s is packed as one block of that kind.
func checkKind(t *testing.T, s string, kind int) {
	t.Helper()
	var want [3]int
	want[kind] = 1
	if got := checkPack(t, s); got != want {
		t.Errorf("%s, %d bytes: so many blocks of the kinds: %v", inHex(s), len(s), got)
	}
	if got := deflate.Pack(s); got[0]&7 != byte(1|kind<<1) {
		t.Errorf("Pack(%s), %d bytes: got %s, not of kind %d", inHex(s), len(s), inHex(got), kind)
	}
}

// high answers n unlike bytes, from least on and below 50 more, so mixed that a block of kind 2 has much to tell of them.
func high(n, least int) string {
	var b []byte
	for _, x := range []byte(sample.Text(2000, 1)) {
		if c := byte(least) + x%50; len(b) < n && !slices.Contains(b, c) {
			b = append(b, c)
		}
	}
	return string(b)
}

// P11.3: packed texts that are known: the chapter's, some that are short enough to be packed by hand, and some that other programs pack likewise.
func TestPackKnown(t *testing.T) {
	for s, want := range map[string]string{
		"": "0300", "a": "4b0400", "abc": "4b4c4a0600", "aaaa": "4b040200", "\x00": "630000", "\xff": "fb0f00",
		high(31, 144): "011f00e0ff" + hex.EncodeToString([]byte(high(31, 144))),
		strings.Repeat("engrosser engrosses the grosser entries, and the greater errors too; ", 6): "4bcd4b2fca2f2e4e2d5280b18a154a32521510a2254599a9c53a0a8979295089d4c412904451517e11506d7ebe355ceba82154360400",
	} {
		if got := hex.EncodeToString([]byte(deflate.Pack(s))); got != want {
			t.Errorf("Pack(%s): got %s, not %s", inHex(s), got, want)
		}
	}
}

// P11.3: texts of many kinds, bit by bit.
func TestPackTexts(t *testing.T) {
	t.Parallel()
	var kinds [3]int
	for _, s := range someTexts() {
		for i, n := range checkPack(t, s) {
			kinds[i] += n
		}
	}
	if slices.Min(kinds[:]) < 4 {
		t.Errorf("so many blocks of the kinds: %v", kinds)
	}
}

// P11.3: pieces of 32768 bytes, the last one of which may be shorter, but not empty.
func TestPackPieces(t *testing.T) {
	t.Parallel()
	for _, n := range []int{1, 2, pieceSize - 1, pieceSize, pieceSize + 1, pieceSize + 2, 2*pieceSize - 1, 2 * pieceSize, 2*pieceSize + 1, 3 * pieceSize} {
		for _, s := range []string{strings.Repeat("x", n), sample.Text(n, 1), lettered(n, 7, 1)} {
			blocks := 0
			for _, count := range checkPack(t, s) {
				blocks += count
			}
			if want := (n + pieceSize - 1) / pieceSize; blocks != want {
				t.Errorf("%d bytes: %d blocks, not %d", n, blocks, want)
			}
		}
	}
	// A text that cannot be made shorter: that each piece is one stored block can be seen.
	s := sample.Text(2*pieceSize+5000, 2)
	want := "\x00\x00\x80\xff\x7f" + s[:pieceSize] + "\x00\x00\x80\xff\x7f" + s[pieceSize:2*pieceSize] + "\x01\x88\x13\x77\xec" + s[2*pieceSize:]
	if got := deflate.Pack(s); got != want {
		t.Errorf("got %s (%d bytes), not %s (%d)", inHex(got), len(got), inHex(want), len(want))
	}
}

// P11.3: what stands ahead of a piece is said again in it.
func TestPackAhead(t *testing.T) {
	t.Parallel()
	for _, ahead := range []int{pieceSize, pieceSize - 1, pieceSize + 1, 20000, 40000} {
		s := sample.Text(ahead, 3)
		s += s
		checkPack(t, s)
		if got := len(deflate.Pack(s)); ahead <= pieceSize && got > ahead+400 || ahead > pieceSize && got < 2*ahead {
			t.Errorf("twice %d bytes: %d", ahead, got)
		}
	}
}

// P11.3: each length is said by its symbol.
func TestPackLengths(t *testing.T) {
	t.Parallel()
	whole := unlike(600, 1)
	for size := range 530 {
		checkPack(t, whole+"."+whole[:size])
		checkPack(t, strings.Repeat("z", size))
	}
}

// P11.3: so is each distance, the least and the greatest one that a symbol says, and those beside them.
func TestPackDistances(t *testing.T) {
	t.Parallel()
	const whole = "\xf1\xf2\xf3\xf4\xf5\xf6\xf7"
	for _, row := range byhand.Distances() {
		for _, back := range []int{row[0] - 1, row[0], row[0] + 1<<row[1] - 1, row[0] + 1<<row[1]} {
			if back < 7 {
				checkPack(t, strings.Repeat(whole[:max(back, 1)], 9))
			} else if back < pieceSize+9 {
				checkPack(t, whole+unlike(back-7, 1)+whole)
			}
		}
	}
}

// P11.3: each byte, alone and with all others.
func TestPackBytes(t *testing.T) {
	all := ""
	for i := range 256 {
		s := string([]byte{byte(i)})
		all += s
		checkPack(t, s)
		checkPack(t, strings.Repeat(s, 3000))
		checkPack(t, all)
	}
	checkPack(t, strings.Repeat(all, 200))
}

// P11.3: of kinds 1 and 2 the first one, if it has not more bits.
func TestPackFixedOrTold(t *testing.T) {
	t.Parallel()
	var told, same, less int
	for letters := 2; letters < 10; letters++ {
		for n := 20; n < 180; n++ {
			s := lettered(n, letters, n%3)
			kinds := byhand.Kinds(s)
			switch more := len(kinds[1]) - len(kinds[2]); {
			case len(kinds[0]) < len(kinds[1]):
				continue
			case more == 1:
				told++
				checkKind(t, s, 2)
			case more == 0:
				same++
				checkKind(t, s, 1)
			case more == -1:
				less++
				checkKind(t, s, 1)
			default:
				checkPack(t, s)
			}
		}
	}
	if min(told, same, less) < 3 {
		t.Errorf("of %d texts kind 1 has one bit more, of %d as many, of %d one less", told, same, less)
	}
}

// P11.3: kind 0 only if it has fewer bits than the other ones.
func TestPackStored(t *testing.T) {
	t.Parallel()
	for n := 1; n <= 40; n++ {
		// In a block of kind 1 there are 10 + 9 n bits, in one of kind 0 there are 40 + 8 n.
		if n <= 30 {
			checkKind(t, high(n, 144), 1)
		} else {
			checkKind(t, high(n, 144), 0)
		}
	}
	var stored, same, more int
	for below := 100; below <= 230; below += 10 {
		for n := 200; n < 1500; n += 3 {
			s := even(n, below, n%3)
			kinds := byhand.Kinds(s)
			if len(kinds[2]) >= len(kinds[1]) {
				continue
			}
			switch len(kinds[0]) - len(kinds[2]) {
			case -1, -2:
				stored++
				checkKind(t, s, 0)
			case 0:
				same++
				checkKind(t, s, 2)
			case 1, 2:
				more++
				checkKind(t, s, 2)
			}
		}
	}
	if min(stored, same, more) < 3 {
		t.Errorf("of %d texts kind 0 has one or two bits less than kind 2, of %d as many, of %d one or two more", stored, same, more)
	}
}

// P11.3: the bits that are passed over count, too, wherever a block begins.
func TestPackPassedOver(t *testing.T) {
	t.Parallel()
	var begins [8]int
	for k := range 40 {
		first := strings.Repeat("z", pieceSize-k) + high(k, 196)
		kinds := byhand.Kinds(first)
		begin := min(len(kinds[1]), len(kinds[2])) % 8
		begins[begin]++
		// Ahead of the four bytes there are three bits, and up to seven more.
		passed := (8 - (begin+3)%8) % 8
		for n := 24; n < 36; n++ {
			got := checkPack(t, first+high(n, 144))
			if stored := 3+passed+32+8*n < 10+9*n; stored != (got[0] == 1) {
				t.Errorf("%d bits stand ahead of %d bytes: so many blocks of the kinds: %v", begin, n, got)
			}
		}
	}
	if slices.Min(begins[:]) == 0 {
		t.Errorf("so many blocks begin at each bit: %v", begins)
	}
}

// depth answers how many bits the longest code would have that such counts make, if it might have any.
func depth(counts []int) int {
	var weights, depths []int
	for _, n := range counts {
		if n > 0 {
			weights, depths = append(weights, n), append(depths, 0)
		}
	}
	take := func() (int, int) {
		at := 0
		for i, n := range weights {
			if n < weights[at] {
				at = i
			}
		}
		weight, depth := weights[at], depths[at]
		weights, depths = slices.Delete(weights, at, at+1), slices.Delete(depths, at, at+1)
		return weight, depth
	}
	for len(weights) > 1 {
		one, oneDepth := take()
		other, otherDepth := take()
		weights, depths = append(weights, one+other), append(depths, 1+max(oneDepth, otherDepth))
	}
	return depths[0]
}

// depths answers how long the longest codes of the last piece of s would be: of its symbols, of its distances, and of what tells their lengths.
func depths(s string) [3]int {
	from := (len(s) - 1) / pieceSize * pieceSize
	var tokens []byhand.Token
	for _, x := range deflate.Tokens(s, from, len(s)) {
		tokens = append(tokens, byhand.Token(x))
	}
	symbols, distances := byhand.Counts(s, from, tokens)
	runs := make([]int, 19)
	for _, r := range byhand.Runs(slices.Concat(byhand.ToldLengths(s, from, tokens))) {
		runs[r[0]]++
	}
	return [3]int{depth(symbols), depth(distances), depth(runs)}
}

// P11.3: codes of as many bits as may be, and some that would be longer, and so are made shorter.
func TestPackLongCodes(t *testing.T) {
	t.Parallel()
	for s, want := range map[string][3]int{
		steep(pieceSize, 150, 7, 0): {15, 7, 7}, steep(pieceSize, 128, 9, 1): {17, 7, 6}, steep(pieceSize, 200, 8, 2): {17, 6, 8},
		farther(14): {11, 15, 7}, farther(13): {11, 16, 6},
	} {
		if got := depths(s); got != want {
			t.Errorf("%s: %v, not %v", inHex(s), got, want)
		}
		checkPack(t, s)
	}
}

// checkOpened: what is packed of s is opened, all of it, as s.
func checkOpened(t *testing.T, s string) {
	t.Helper()
	packed := deflate.Pack(s)
	if out, used, e := inflate.Open(packed+"more", len(s)); out != s || used != len(packed) || e != api.OK {
		t.Errorf("%s, %d bytes: got %s, %d, %d of %d bytes", inHex(s), len(s), inHex(out), used, e, len(packed))
	}
}

// P11.4: what is packed is opened as it was, also by Go's own library; so is it if it is long.
func TestPackedIsOpened(t *testing.T) {
	t.Parallel()
	for i, s := range someTexts() {
		checkOpened(t, s)
		checkOpened(t, s[:len(s)/2])
		checkLibrary(t, s)
		for n := range min(len(s), 40) {
			checkOpened(t, s[n:min(len(s), 2*n+i)])
		}
	}
	checkOpened(t, farther(13))
	checkOpened(t, sample.Text(1<<20, 1))
	checkOpened(t, lettered(1<<20, 9, 1))
	checkLibrary(t, sample.Text(1<<20+1, 1)+strings.Repeat("z", 1<<20)+lettered(1<<20, 20, 1))
}

// checkLibrary: Go's own library opens what is packed of s.
func checkLibrary(t *testing.T, s string) {
	t.Helper()
	if out, err := io.ReadAll(flate.NewReader(strings.NewReader(deflate.Pack(s)))); string(out) != s || err != nil {
		t.Errorf("%s, %d bytes: the library opens %d bytes, %v", inHex(s), len(s), len(out), err)
	}
}

// P3: a text is neither written into nor kept, and what is answered is no part of it.
func TestTextsAreNotKept(t *testing.T) {
	s := high(40, 144) + lettered(300, 5, 1) + sample.Text(40000, 1)
	memory := []byte(s + "more")
	lent := unsafe.String(&memory[0], len(s))
	tokens, packed, short := deflate.Tokens(lent, 30, len(s)), deflate.Pack(lent), deflate.Pack(lent[:1])
	if string(memory) != s+"more" {
		t.Error("written into")
	}
	clear(memory)
	if !slices.Equal(tokens, deflate.Tokens(s, 30, len(s))) || packed != deflate.Pack(s) || short != deflate.Pack(s[:1]) {
		t.Error("kept")
	}
}

// P3: tokens are new memory, spare room too.
func TestTokensAreNew(t *testing.T) {
	s := lettered(3000, 5, 1)
	tokens, again := deflate.Tokens(s, 0, len(s)), deflate.Tokens(s, 0, len(s))
	for i := range tokens[:cap(tokens)] {
		tokens[:cap(tokens)][i] = token{77, 77}
	}
	if want := wordsTokens(s, 0, len(s)); !slices.Equal(again, want) || !slices.Equal(deflate.Tokens(s, 0, len(s)), want) {
		t.Error("two answers share memory")
	}
}

// P4: what others ask at the same time, or asked ahead, is not to be seen.
func TestAtOneTime(t *testing.T) {
	var wait sync.WaitGroup
	texts := someTexts()
	for i := range 8 {
		wait.Go(func() {
			for j := range texts {
				s := texts[(i*5+j)%len(texts)]
				s = s[:min(len(s), 3000)]
				checkPack(t, s)
				checkTokens(t, s, len(s)/2, len(s), wordsTokens(s, len(s)/2, len(s))...)
			}
		})
	}
	wait.Wait()
}
