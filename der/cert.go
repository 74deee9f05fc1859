package der

import (
	"slices"
	"strings"

	"engrosser/api"
	"engrosser/sum256"
)

// The tags that the log knows.
const (
	listTag    = 0x30
	versionTag = 0xa0
	extsTag    = 0xa3
)

// poison is the first part of the extension that tells a precertificate.
const poison = "\x06\x0a\x2b\x06\x01\x04\x01\xd6\x79\x02\x04\x03"

// keyPlace is where the key stands in a body, the version not counted.
const keyPlace = 5

// Strip answers the body of a certificate without its poison, and true; nothing and false, if it has none.
func Strip(cert string) (tbs string, pre bool, e api.Errno) {
	body, e := bodyOf(cert)
	if e != api.OK {
		return "", false, e
	}
	place := slices.IndexFunc(body, func(part Item) bool { return part.Tag == extsTag })
	if place < 0 {
		return "", false, api.OK
	}
	kept, poisons, ok := harmless(body[place].Text)
	switch {
	case !ok || poisons > 1:
		return "", false, api.ErrForm
	case poisons == 0:
		return "", false, api.OK
	case len(kept) == 0:
		body = slices.Delete(body, place, place+1)
	default:
		body[place].Text = listOf(kept)
	}
	return listOf(body), true, api.OK
}

// Key answers the sum of the key that a certificate tells.
func Key(cert string) (string, api.Errno) {
	body, e := bodyOf(cert)
	if e != api.OK {
		return "", e
	}
	if len(body) > 0 && body[0].Tag == versionTag {
		body = body[1:]
	}
	if len(body) <= keyPlace || body[keyPlace].Tag != listTag {
		return "", api.ErrForm
	}
	return sum256.One(wrapped(listTag, body[keyPlace].Text)), api.OK
}

// bodyOf answers the parts of a certificate's body.
func bodyOf(cert string) ([]Item, api.Errno) {
	if len(cert) > api.MaxBody {
		return nil, api.ErrLong
	}
	all, ok := inList(cert)
	if !ok || len(all) == 0 || all[0].Tag != listTag {
		return nil, api.ErrForm
	}
	// Too many parts are none that can be had, so that no error is told but this one.
	body, e := parts(all[0].Text)
	if e != api.OK {
		return nil, api.ErrForm
	}
	return body, api.OK
}

// harmless answers the extensions in the text of a body's part, but for the poisons, and how many of these there are; false, if they are not so.
func harmless(text string) (kept []Item, poisons int, ok bool) {
	all, ok := inList(text)
	if !ok {
		return nil, 0, false
	}
	for _, one := range all {
		inner, e := parts(one.Text)
		if one.Tag != listTag || e != api.OK || len(inner) == 0 {
			return nil, 0, false
		}
		// The bytes are an item, so a text that begins with them has it as its first part.
		if strings.HasPrefix(one.Text, poison) {
			poisons++
			continue
		}
		kept = append(kept, one)
	}
	return kept, poisons, true
}

// inList answers the parts of the one list that s is; false, if it is none.
func inList(s string) ([]Item, bool) {
	list, e := first(s)
	if e != api.OK || list.Tag != listTag || list.Rest != "" {
		return nil, false
	}
	all, e := parts(list.Text)
	return all, e == api.OK
}

// listOf answers the list that has just these parts.
func listOf(parts []Item) string {
	text := ""
	for _, part := range parts {
		text += wrapped(part.Tag, part.Text)
	}
	return wrapped(listTag, text)
}
