package sample

import (
	"slices"
	"strings"
)

// PoisonName is the first part of the poison of chapter 14.
const PoisonName = "\x06\x0a\x2b\x06\x01\x04\x01\xd6\x79\x02\x04\x03"

// Length answers what tells a length in chapter 14's words, of however many bytes.
func Length(n int) string {
	if n < 128 {
		return string([]byte{byte(n)})
	}
	var told []byte
	for ; n > 0; n >>= 8 {
		told = append(told, byte(n))
	}
	told = append(told, 0x80+byte(len(told)))
	slices.Reverse(told)
	return string(told)
}

// Item answers the one that has the parts, one behind the other, as its text.
func Item(tag int, parts ...string) string {
	text := strings.Join(parts, "")
	return string([]byte{byte(tag)}) + Length(len(text)) + text
}

// List answers the item of tag 30 that has these parts.
func List(parts ...string) string { return Item(0x30, parts...) }

// Poison answers the one of true precertificates.
func Poison() string { return List(PoisonName, Item(1, "\xff"), Item(4, "\x05\x00")) }

// Ext answers an extension that is no poison, with a text of n bytes.
func Ext(n int) string { return List(Item(6, "\x55\x1d\x0f"), Item(4, Text(n, 1))) }

// Key answers one as it stands in a body, with a text of n bytes.
func Key(n int) string { return List(List(Item(6, "\x2b\x65\x70")), Item(3, Text(n, 2))) }

// Fields answer what stands ahead of the extensions in a body; the key is the last one.
func Fields() []string {
	return []string{Item(0xa0, Item(2, "\x02")), Item(2, "\x07"), List(Item(6, "\x2b\x65\x70")), List(Item(0x31, "\x04\x00")), List(Item(0x17, "2026"), Item(0x17, "2027")), List(), Key(32)}
}

// Body answers a body that has the fields and, if there is one, a part a3 of the extensions.
func Body(exts ...string) string {
	all := Fields()
	if len(exts) > 0 {
		all = append(all, Item(0xa3, List(exts...)))
	}
	return List(all...)
}

// Cert answers a certificate of the body.
func Cert(body string) string {
	return List(body, List(Item(6, "\x2b\x65\x70")), Item(3, "\x00"+Text(64, 3)))
}

// CertOf answers a certificate of size bytes, which are some hundreds at least, and its body without the poison; it has one, if it shall. (Of a few sizes there is none: nothing.)
func CertOf(size int, poisoned bool) (cert, without string) {
	for n := size - 400; n < size; n++ {
		exts := []string{Ext(n)}
		if poisoned {
			exts = append(exts, Poison())
		}
		if cert = Cert(Body(exts...)); len(cert) == size {
			return cert, Body(Ext(n))
		}
	}
	return "", ""
}
