package leaf_test

import (
	"crypto/sha256"
	"encoding/binary"
	"encoding/hex"
	"slices"
	"strconv"
	"strings"
	"testing"

	"engrosser/api"
	"engrosser/der"
	"engrosser/leaf"
	"engrosser/sample"
)

// Short names of what certificates are built of.
var (
	item   = sample.Item
	list   = sample.List
	poison = sample.Poison
	ext    = sample.Ext
	bodyOf = sample.Body
	certOf = sample.Cert
)

// bytesOf answers n in size bytes, the greatest first.
func bytesOf(n, size int) string {
	return string(binary.BigEndian.AppendUint64(nil, uint64(n))[8-size:])
}

// sumOf answers the sum of chapter 1, by Go's own library.
func sumOf(s string) string {
	sum := sha256.Sum256([]byte(s))
	return string(sum[:])
}

// wordsRight is Right in the chapter's words.
func wordsRight(e api.Entry) bool {
	for _, s := range e.Chain {
		if len(s) != 32 {
			return false
		}
	}
	if e.Pre && (len(e.Key) != 32 || len(e.Full) < 1 || len(e.Full) > 2000) {
		return false
	}
	if !e.Pre && (len(e.Key) > 0 || len(e.Full) > 0) {
		return false
	}
	return len(e.Body) >= 1 && len(e.Body) <= 2000 && e.Time >= 0 && e.Time < 1<<48 && e.Index >= 0 && e.Index < 1<<30 && len(e.Chain) <= 4
}

// wordsCommon is the common part of a right entry in the chapter's words.
func wordsCommon(e api.Entry) string {
	s := bytesOf(e.Time, 8)
	if e.Pre {
		s += "\x00\x01" + e.Key
	} else {
		s += "\x00\x00"
	}
	return s + bytesOf(len(e.Body), 3) + e.Body + "\x00\x08" + "\x00" + "\x00\x05" + bytesOf(e.Index, 5)
}

// wordsMerkle is Merkle of a right entry in the chapter's words.
func wordsMerkle(e api.Entry) string { return "\x00\x00" + wordsCommon(e) }

// wordsTile is Tile of a right entry in the chapter's words.
func wordsTile(e api.Entry) string {
	s := wordsCommon(e)
	if e.Pre {
		s += bytesOf(len(e.Full), 3) + e.Full
	}
	return s + bytesOf(32*len(e.Chain), 2) + strings.Join(e.Chain, "")
}

// wordsName is Name of a right entry in the chapter's words.
func wordsName(e api.Entry) string {
	if e.Pre {
		return sumOf("\x01" + e.Key + e.Body)[:16]
	}
	return sumOf("\x00" + e.Key + e.Body)[:16]
}

// cutter cuts a text from the front on; it is wrong, once a cut was too long, or a length was not so.
type cutter struct {
	s     string
	wrong bool
}

func (c *cutter) cut(n int) string {
	if c.wrong || n > len(c.s) {
		c.wrong = true
		return ""
	}
	first := c.s[:n]
	c.s = c.s[n:]
	return first
}

func (c *cutter) number(size int) (n int) {
	for _, b := range []byte(c.cut(size)) {
		n = n*256 + int(b)
	}
	return n
}

// must cuts just these bytes.
func (c *cutter) must(s string) { c.wrong = c.cut(len(s)) != s || c.wrong }

// wordsTake is TakeTile in the chapter's words: each part is looked at as it is met.
func wordsTake(s string) (api.Entry, string, api.Errno) {
	e, c := api.Entry{}, &cutter{s: s}
	c.must("\x00\x00")
	e.Time = c.number(6)
	c.must("\x00")
	switch c.cut(1) {
	case "\x00":
	case "\x01":
		e.Pre, e.Key = true, c.cut(32)
	default:
		c.wrong = true
	}
	e.Body = c.cut(c.number(3))
	c.must("\x00\x08\x00\x00\x05\x00")
	e.Index = c.number(4)
	if e.Pre {
		e.Full = c.cut(c.number(3))
	}
	size := c.number(2)
	for range size / 32 {
		e.Chain = append(e.Chain, c.cut(32))
	}
	if c.wrong || size%32 != 0 || !wordsRight(e) {
		return api.Entry{}, "", api.ErrForm
	}
	return e, c.s, api.OK
}

// wordsMake is Make in the chapter's words.
func wordsMake(chain []string, pre bool, time, index int) (api.Entry, api.Errno) {
	if len(chain) == 0 || len(chain) > 5 || time < 0 || time >= 1<<48 || index < 0 || index >= 1<<30 {
		return api.Entry{}, api.ErrArg
	}
	var bodies, prints []string
	poisons := ""
	for _, cert := range chain {
		tbs, has, e := der.Strip(cert)
		if e != api.OK {
			return api.Entry{}, e
		}
		bodies, prints = append(bodies, tbs), append(prints, sumOf(cert))
		poisons += strconv.FormatBool(has)[:1]
	}
	others := strings.Repeat("f", len(chain)-1)
	if !pre && poisons == "f"+others {
		return api.Entry{Body: chain[0], Chain: prints[1:], Time: time, Index: index}, api.OK
	}
	if !pre || len(chain) == 1 || poisons != "t"+others {
		return api.Entry{}, api.ErrForm
	}
	key, e := der.Key(chain[1])
	if e != api.OK {
		return api.Entry{}, e
	}
	return api.Entry{Pre: true, Body: bodies[0], Key: key, Full: chain[0], Chain: prints[1:], Time: time, Index: index}, api.OK
}

// same: are the entries the same? A chain of nothing may be nil.
func same(a, b api.Entry) bool {
	return a.Pre == b.Pre && a.Body == b.Body && a.Key == b.Key && a.Full == b.Full && slices.Equal(a.Chain, b.Chain) && a.Time == b.Time && a.Index == b.Index
}

// short answers s in hex; of a long one its beginning, and how long it is.
func short(s string) string {
	if len(s) <= 80 {
		return hex.EncodeToString([]byte(s))
	}
	return hex.EncodeToString([]byte(s[:40])) + ".. (" + strconv.Itoa(len(s)) + " bytes)"
}

// shown answers e, to be told.
func shown(e api.Entry) string {
	s := "{" + strconv.FormatBool(e.Pre) + " body " + short(e.Body) + " key " + short(e.Key) + " full " + short(e.Full) + " chain"
	for _, one := range e.Chain {
		s += " " + short(one)
	}
	return s + " time " + strconv.Itoa(e.Time) + " index " + strconv.Itoa(e.Index) + "}"
}

// call is one of those that answer bytes of an entry, and what it answers of a right one in the chapter's words.
type call struct {
	name  string
	of    func(e api.Entry) (string, api.Errno)
	words func(e api.Entry) string
}

func calls() []call {
	return []call{
		{"Merkle", leaf.Merkle, wordsMerkle},
		{"Tile", leaf.Tile, wordsTile},
		{"Hash", leaf.Hash, func(e api.Entry) string { return sumOf("\x00" + wordsMerkle(e)) }},
		{"Name", leaf.Name, wordsName},
	}
}

// checkRight: e is right, its bytes are as the chapter's words say, and it is read as it was written, whatever stands behind.
func checkRight(t *testing.T, e api.Entry) {
	t.Helper()
	if !leaf.Right(e) {
		t.Errorf("not Right: %s", shown(e))
	}
	for _, c := range calls() {
		if got, err := c.of(e); got != c.words(e) || err != api.OK {
			t.Errorf("%s of %s: got %s, %d, not %s", c.name, shown(e), short(got), err, short(c.words(e)))
		}
	}
	s, _ := leaf.Tile(e)
	for _, rest := range []string{"", "\x00", "rest", strings.Repeat("\x00", 100), s} {
		checkTake(t, s+rest, e, rest, api.OK)
	}
}

// checkWrong: e is not right, and has no bytes.
func checkWrong(t *testing.T, e api.Entry) {
	t.Helper()
	if leaf.Right(e) {
		t.Errorf("Right: %s", shown(e))
	}
	for _, c := range calls() {
		if got, err := c.of(e); got != "" || err != api.ErrArg {
			t.Errorf("%s of %s: got %s, %d", c.name, shown(e), short(got), err)
		}
	}
}

// checkEither: e is right just if it shall be.
func checkEither(t *testing.T, e api.Entry, right bool) {
	t.Helper()
	if right {
		checkRight(t, e)
	} else {
		checkWrong(t, e)
	}
}

func checkTake(t *testing.T, s string, want api.Entry, rest string, err api.Errno) {
	t.Helper()
	if got, behind, e := leaf.TakeTile(s); !same(got, want) || behind != rest || e != err {
		t.Errorf("TakeTile(%s): got %s, %s, %d, not %s, %s, %d", short(s), shown(got), short(behind), e, shown(want), short(rest), err)
	}
}

// checkNone: s does not begin with an entry.
func checkNone(t *testing.T, s string) {
	t.Helper()
	checkTake(t, s, api.Entry{}, "", api.ErrForm)
}

// checkTakeWords: of any text TakeTile answers what the chapter's words ask.
func checkTakeWords(t *testing.T, s string) api.Errno {
	t.Helper()
	want, rest, err := wordsTake(s)
	checkTake(t, s, want, rest, err)
	return err
}

func checkMake(t *testing.T, chain []string, pre bool, time, index int, want api.Entry, err api.Errno) {
	t.Helper()
	got, e := leaf.Make(chain, pre, time, index)
	if !same(got, want) || e != err {
		var told []string
		for _, cert := range chain[:min(len(chain), 8)] {
			told = append(told, short(cert))
		}
		t.Errorf("Make(%v, %v, %d, %d): got %s, %d, not %s, %d", told, pre, time, index, shown(got), e, shown(want), err)
	}
}

// checkRefused: Make answers that error.
func checkRefused(t *testing.T, chain []string, pre bool, time, index int, err api.Errno) {
	t.Helper()
	checkMake(t, chain, pre, time, index, api.Entry{}, err)
}

// checkMakeWords: of any arguments Make answers what the chapter's words ask; what is made is right.
func checkMakeWords(t *testing.T, chain []string, pre bool, time, index int) api.Errno {
	t.Helper()
	want, err := wordsMake(chain, pre, time, index)
	checkMake(t, chain, pre, time, index, want, err)
	if err == api.OK {
		checkRight(t, want)
	}
	return err
}

// prints answers texts of 32 bytes, each another one.
func prints(count, seed int) (all []string) {
	for at := range count {
		all = append(all, sample.Text(32, seed+at))
	}
	return all
}

// plain and precert are right entries, of some ordinary parts.
func plain() api.Entry {
	return api.Entry{Body: sample.Text(300, 1), Chain: prints(2, 2), Time: 1795000000123, Index: 70000}
}

func precert() api.Entry {
	return api.Entry{Pre: true, Body: sample.Text(280, 5), Key: sample.Text(32, 6), Full: sample.Text(310, 7), Chain: prints(3, 8), Time: 1795000000456, Index: 70001}
}

// someEntry answers a right entry that follows no plain rule.
func someEntry(seed int) api.Entry {
	b := sample.Text(17, seed)
	number := int(binary.BigEndian.Uint64([]byte(b[:8])))
	e := api.Entry{
		Body:  sample.Text(1+number>>8&0xffff%2000, seed),
		Chain: prints(int(b[8])%5, seed+1),
		Time:  number & (1<<48 - 1) >> (b[9] % 49),
		Index: number >> 20 & (1<<30 - 1) >> (b[10] % 31),
	}
	if b[11]%2 == 1 {
		e.Pre, e.Key, e.Full = true, sample.Text(32, seed+2), sample.Text(1+(int(b[12])<<8+int(b[13]))%2000, seed+3)
	}
	return e
}
