package der

import (
	"iter"
	"math/bits"
	"strings"

	"engrosser/api"
)

const (
	longTag   = 0x1f // the lower five bits of a tag that goes on in other bytes
	longBit   = 0x80 // the first length that more bytes tell, and the bit ahead that says how many
	mostBytes = 3    // that tell a length
)

// isTag tells whether tag is a byte that may stand ahead of an item.
func isTag(tag int) bool { return tag >= 0 && tag <= 0xff && tag&longTag != longTag }

// parts answers the items of which s consists, as pieces of s.
func parts(s string) ([]Item, api.Errno) {
	var all []Item
	fault := api.OK
walk:
	for item, e := range items(s) {
		switch {
		case e != api.OK:
			fault = e
			break walk
		case len(all) == mostItems:
			fault = api.ErrLong
			break walk
		}
		all = append(all, item)
	}
	if fault != api.OK {
		return nil, fault
	}
	return all, api.OK
}

// items hands on the items of s, one behind the other; an error, and nothing behind it, where there is none.
func items(s string) iter.Seq2[Item, api.Errno] {
	return func(yield func(Item, api.Errno) bool) {
		for s := s; s != ""; {
			item, e := first(s)
			if !yield(item, e) || e != api.OK {
				return
			}
			s = item.Rest
		}
	}
}

// first answers the item that s begins with, as pieces of s.
func first(s string) (Item, api.Errno) {
	if s == "" || !isTag(int(s[0])) {
		return Item{}, api.ErrForm
	}
	size, behind, ok := taken(s[1:])
	if !ok || size > len(behind) {
		return Item{}, api.ErrForm
	}
	return Item{int(s[0]), behind[:size], behind[size:]}, api.OK
}

// taken answers the length that s begins with, and what stands behind it; false, if there is none.
func taken(s string) (size int, behind string, ok bool) {
	if s == "" {
		return 0, "", false
	}
	if s[0] < longBit {
		return int(s[0]), s[1:], true
	}
	end := 1 + int(s[0]-longBit)
	if end > 1+mostBytes || end > len(s) {
		return 0, "", false
	}
	for _, b := range []byte(s[1:end]) {
		size = size<<8 | int(b)
	}
	// There is just one way to tell a length: the shortest one.
	if s[:end] != length(size) {
		return 0, "", false
	}
	return size, s[end:], true
}

// length answers what tells that size.
func length(size int) string {
	if size < longBit {
		return string([]byte{byte(size)})
	}
	many := (bits.Len(uint(size)) + 7) / 8
	told := []byte{longBit | byte(many)}
	for left := many - 1; left >= 0; left-- {
		told = append(told, byte(size>>(8*left)))
	}
	return string(told)
}

// wrapped answers the item that has a tag and a text that may be.
func wrapped(tag int, text string) string {
	return strings.Join([]string{string([]byte{byte(tag)}), length(len(text)), text}, "")
}
