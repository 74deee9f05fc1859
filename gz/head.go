package gz

import (
	"strings"

	"engrosser/api"
	"engrosser/crc"
)

// The flags that say what stands ahead of a packed text.
const (
	hasSum    = 2
	hasExtra  = 4
	hasName   = 8
	hasRemark = 16
	unknown   = 128 + 64 + 32
)

// unread is how many bytes there are, behind the flags, that nothing hangs on: the time, the effort and the system.
const unread = 6

// halfSum is how many bytes of its sum a head tells.
const halfSum = 2

// head is what stands ahead of a packed text, and is passed over.
type head struct {
	text string
	at   int // the first byte that is not passed over
}

// part is one that a head has where its flag is set.
type part struct {
	flag byte
	pass func() api.Errno
}

// pass passes over all that stands ahead, and tells the first fault that is met.
func (h *head) pass() api.Errno {
	flags, e := h.passBegin()
	if e != api.OK {
		return e
	}
	for _, p := range [...]part{{hasExtra, h.passExtra}, {hasName, h.passText}, {hasRemark, h.passText}, {hasSum, h.passSum}} {
		if flags&p.flag == 0 {
			continue
		}
		if e := p.pass(); e != api.OK {
			return e
		}
	}
	return api.OK
}

// passBegin passes over what each head has, and answers its flags.
func (h *head) passBegin() (byte, api.Errno) {
	fixed, ok := h.take(len(begin) + 1 + unread)
	if !ok || fixed[:len(begin)] != begin {
		return 0, api.ErrForm
	}
	flags := fixed[len(begin)]
	if flags&unknown != 0 {
		return 0, api.ErrForm
	}
	return flags, api.OK
}

// passExtra passes over bytes that tell how many they are.
func (h *head) passExtra() api.Errno {
	size, ok := h.take(2)
	if !ok {
		return api.ErrForm
	}
	if _, ok := h.take(int(size[0]) + int(size[1])<<8); !ok {
		return api.ErrForm
	}
	return api.OK
}

// passText passes over a text that a byte 0 ends.
func (h *head) passText() api.Errno {
	size := strings.IndexByte(h.text[h.at:], 0)
	if size < 0 {
		return api.ErrForm
	}
	h.at += size + 1
	return api.OK
}

// passSum passes over the head's sum, which is of all that was passed over.
func (h *head) passSum() api.Errno {
	right := lowestFirst(crc.Sum(h.text[:h.at]))[:halfSum]
	told, ok := h.take(halfSum)
	switch {
	case !ok:
		return api.ErrForm
	case told != right:
		return api.ErrSum
	}
	return api.OK
}

// take passes over so many bytes and answers them; false, if there are fewer.
func (h *head) take(size int) (string, bool) {
	if size > len(h.text)-h.at {
		return "", false
	}
	taken := h.text[h.at : h.at+size]
	h.at += size
	return taken, true
}
