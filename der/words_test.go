package der_test

import (
	"crypto/sha256"
	"encoding/hex"
	"strconv"
	"strings"

	"engrosser/api"
	"engrosser/der"
	"engrosser/sample"
)

// poisonName is the first part of the poison.
const poisonName = sample.PoisonName

// Short names of what certificates are built of.
var (
	item   = sample.Item
	list   = sample.List
	poison = sample.Poison
	ext    = sample.Ext
	key    = sample.Key
	fields = sample.Fields
	bodyOf = sample.Body
	certOf = sample.Cert
)

// lengths are what tells each length that these tests often meet.
var lengths = func() (all []string) {
	for n := range 3000 {
		all = append(all, sample.Length(n))
	}
	return all
}()

// lengthOf answers what tells a length.
func lengthOf(n int) string {
	if n < len(lengths) {
		return lengths[n]
	}
	return sample.Length(n)
}

// wordsNext is Next in the chapter's words: each length is tried.
func wordsNext(s string) (der.Item, api.Errno) {
	if s == "" || s[0]%32 == 31 {
		return der.Item{}, api.ErrForm
	}
	for n := range min(len(s), 1<<24) {
		if head := lengthOf(n); strings.HasPrefix(s[1:], head) && len(s) >= 1+len(head)+n {
			behind := s[1+len(head):]
			return der.Item{Tag: int(s[0]), Text: behind[:n], Rest: behind[n:]}, api.OK
		}
	}
	return der.Item{}, api.ErrForm
}

// wordsParts is Parts in the chapter's words.
func wordsParts(s string) ([]der.Item, api.Errno) {
	var all []der.Item
	for s != "" {
		x, e := wordsNext(s)
		if e != api.OK {
			return nil, e
		}
		if all, s = append(all, x), x.Rest; len(all) == 101 {
			return nil, api.ErrLong
		}
	}
	return all, api.OK
}

// wordsList answers the parts of the one item of tag 30 that s is, if it is.
func wordsList(s string) ([]der.Item, bool) {
	x, e := wordsNext(s)
	if e != api.OK || x.Rest != "" || x.Tag != 0x30 {
		return nil, false
	}
	parts, e := wordsParts(x.Text)
	return parts, e == api.OK
}

// wordsBody answers the parts of a certificate's body, in the chapter's words.
func wordsBody(cert string) ([]der.Item, api.Errno) {
	if len(cert) > api.MaxBody {
		return nil, api.ErrLong
	}
	parts, ok := wordsList(cert)
	if !ok || len(parts) == 0 || parts[0].Tag != 0x30 {
		return nil, api.ErrForm
	}
	body, e := wordsParts(parts[0].Text)
	if e != api.OK {
		return nil, api.ErrForm
	}
	return body, api.OK
}

// stripped is what Strip answers.
type stripped struct {
	tbs string
	pre bool
	e   api.Errno
}

// wordsExtensions answers the extensions, as items, without the poisons, and how many poisons there were, in the chapter's words.
func wordsExtensions(text string) (others []string, poisons int, ok bool) {
	all, ok := wordsList(text)
	if !ok {
		return nil, 0, false
	}
	for _, x := range all {
		parts, e := wordsParts(x.Text)
		if e != api.OK || x.Tag != 0x30 || len(parts) == 0 {
			return nil, 0, false
		}
		if first := parts[0]; first.Tag == 6 && first.Text == "\x2b\x06\x01\x04\x01\xd6\x79\x02\x04\x03" {
			poisons++
		} else {
			others = append(others, item(x.Tag, x.Text))
		}
	}
	return others, poisons, true
}

// wordsStrip is Strip in the chapter's words.
func wordsStrip(cert string) stripped {
	body, e := wordsBody(cert)
	if e != api.OK {
		return stripped{e: e}
	}
	text, met, poisoned := "", false, false
	for _, x := range body {
		if x.Tag != 0xa3 || met {
			text += item(x.Tag, x.Text)
			continue
		}
		met = true
		others, poisons, ok := wordsExtensions(x.Text)
		if !ok || poisons > 1 {
			return stripped{e: api.ErrForm}
		}
		if poisoned = poisons == 1; len(others) > 0 {
			text += item(x.Tag, list(others...))
		}
	}
	if !poisoned {
		return stripped{}
	}
	return stripped{list(text), true, api.OK}
}

// wordsKey is Key in the chapter's words.
func wordsKey(cert string) (string, api.Errno) {
	body, e := wordsBody(cert)
	if e != api.OK {
		return "", e
	}
	place := 5
	if len(body) > 0 && body[0].Tag == 0xa0 {
		place = 6
	}
	if place >= len(body) || body[place].Tag != 0x30 {
		return "", api.ErrForm
	}
	return sumOf(list(body[place].Text)), api.OK
}

// sumOf answers the sum of chapter 1, by Go's own library.
func sumOf(s string) string {
	sum := sha256.Sum256([]byte(s))
	return string(sum[:])
}

// short answers s in hex; of a long one its beginning, and how long it is.
func short(s string) string {
	if len(s) <= 200 {
		return hex.EncodeToString([]byte(s))
	}
	return hex.EncodeToString([]byte(s[:100])) + ".. (" + strconv.Itoa(len(s)) + " bytes)"
}
