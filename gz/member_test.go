package gz_test

import (
	"hash/crc32"

	"engrosser/api"
	"engrosser/byhand"
	"engrosser/inflate"
)

// The flags of P12.2.
const (
	flagText   = 1
	flagSum    = 2
	flagExtra  = 4
	flagName   = 8
	flagRemark = 16
)

// bytesOf answers so many bytes of n, the lowest one first.
func bytesOf(n, count int) string {
	var b []byte
	for range count {
		b = append(b, byte(n%256))
		n /= 256
	}
	return string(b)
}

// sumOf answers the sum of s as Go's own library says.
func sumOf(s string) int { return int(crc32.ChecksumIEEE([]byte(s))) }

// seal answers the eight bytes behind what says s.
func seal(s string) string { return bytesOf(sumOf(s), 4) + bytesOf(len(s), 4) }

// handPacked answers s packed in the words of chapter 11.
func handPacked(s string) string {
	packed, _ := byhand.Pack(s, 32768, byhand.KindAny)
	return packed
}

// member is one in parts, of which those are there whose flag is set.
type member struct {
	flags                    int
	six, extra, name, remark string
	turn                     int // the bits of the head's sum that are turned
	packed, end              string
}

// full answers a member of a, with something in each part.
func full(flags int) member {
	return member{flags: flags, six: "\x00\x01\x7f\x80\xff\x00", extra: "ex\x00tra", name: "name", remark: "a remark", packed: "\x4b\x04\x00", end: seal("a")}
}

// ahead answers what stands ahead of what is packed.
func (m member) ahead() string {
	s := "\x1f\x8b\x08" + bytesOf(m.flags, 1) + m.six
	if m.flags&flagExtra != 0 {
		s += bytesOf(len(m.extra), 2) + m.extra
	}
	if m.flags&flagName != 0 {
		s += m.name + "\x00"
	}
	if m.flags&flagRemark != 0 {
		s += m.remark + "\x00"
	}
	if m.flags&flagSum != 0 {
		s += bytesOf(sumOf(s)^m.turn, 2)
	}
	return s
}

// text answers all of it.
func (m member) text() string { return m.ahead() + m.packed + m.end }

// cutter takes a text from the front on. Each fault is a panic.
type cutter string

func (c *cutter) take(count int) string {
	if count > len(*c) {
		panic(api.ErrForm)
	}
	taken := string((*c)[:count])
	*c = (*c)[count:]
	return taken
}

func (c *cutter) text() {
	for c.take(1) != "\x00" {
	}
}

// formOrSum is told where the eight bytes are others, and something stands behind them: which of both faults is met first, the chapter leaves open.
const formOrSum api.Errno = -1

// wordsOpen answers Open in the chapter's words.
func wordsOpen(b string, most int) (s string, e api.Errno) {
	if most < 0 || most > 1<<20 {
		return "", api.ErrArg
	}
	defer func() {
		switch fault := recover().(type) {
		case nil:
		case api.Errno:
			s, e = "", fault
		default:
			panic(fault)
		}
	}()
	c := cutter(b)
	c.ahead(b)
	said, used, e := inflate.Open(string(c), most)
	if e != api.OK {
		panic(e)
	}
	c.take(used)
	switch right := c.take(8) == seal(said); {
	case !right && c != "":
		panic(formOrSum)
	case !right:
		panic(api.ErrSum)
	case c != "":
		panic(api.ErrForm)
	}
	return said, api.OK
}

// ahead takes what stands ahead in b.
func (c *cutter) ahead(b string) {
	if c.take(3) != "\x1f\x8b\x08" {
		panic(api.ErrForm)
	}
	flags := int(c.take(1)[0])
	if flags >= 32 {
		panic(api.ErrForm)
	}
	c.take(6)
	if flags&flagExtra != 0 {
		size := c.take(2)
		c.take(int(size[0]) + 256*int(size[1]))
	}
	if flags&flagName != 0 {
		c.text()
	}
	if flags&flagRemark != 0 {
		c.text()
	}
	if flags&flagSum != 0 {
		right := bytesOf(sumOf(b[:len(b)-len(*c)]), 2)
		if c.take(2) != right {
			panic(api.ErrSum)
		}
	}
}
