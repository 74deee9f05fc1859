package inflate

import (
	"engrosser/api"
	"engrosser/blocks"
)

// unpacker keeps all that was said, for any of it may be said again.
type unpacker struct {
	reader
	most  int // bytes that may be said
	said  []byte
	fixed codes // none, till a block asks for them: to make them takes longer than to read a short block
}

// sayBlocks says what is in the blocks, up to the last one.
func (u *unpacker) sayBlocks() (e api.Errno) {
blocks:
	for {
		last, ok := u.number(0, 1)
		kind, ok2 := u.number(0, 2)
		sayBlock := u.sayStored
		switch {
		case !ok || !ok2 || kind > blocks.Told:
			e = api.ErrForm
			break blocks
		case kind == blocks.Fixed:
			sayBlock = u.sayByFixedCodes
		case kind == blocks.Told:
			sayBlock = u.sayByToldCodes
		}
		e = sayBlock()
		if e != api.OK || last == 1 {
			break blocks
		}
	}
	return e
}

// sayStored says the bytes that stand in a block as they are. Each is read ahead of being said, so that the first fault is told.
func (u *unpacker) sayStored() api.Errno {
	u.toWholeByte()
	size, ok := u.number(0, 16)
	check, ok2 := u.number(0, 16)
	if !ok || !ok2 || size+check != 65535 {
		return api.ErrForm
	}
	for range size {
		b, ok := u.number(0, 8)
		if !ok {
			return api.ErrForm
		}
		if !u.say(byte(b)) {
			return api.ErrLong
		}
	}
	return api.OK
}

// sayByFixedCodes says what stands in a block that tells no codes.
func (u *unpacker) sayByFixedCodes() api.Errno {
	if u.fixed == (codes{}) {
		u.fixed, _ = fixedCodes()
	}
	return u.sayBy(u.fixed)
}

// sayByToldCodes says what stands in a block that tells its codes.
func (u *unpacker) sayByToldCodes() api.Errno {
	c, ok := u.toldCodes()
	if !ok {
		return api.ErrForm
	}
	return u.sayBy(c)
}

// sayBy says what symbols say, up to the block's end.
func (u *unpacker) sayBy(c codes) api.Errno {
	for {
		symbol, ok := u.symbol(c.symbols)
		switch {
		case !ok:
			return api.ErrForm
		case symbol == blocks.End:
			return api.OK
		case symbol > blocks.End:
			if e := u.sayAgain(symbol, c); e != api.OK {
				return e
			}
		case !u.say(byte(symbol)):
			return api.ErrLong
		}
	}
}

// sayAgain says bytes that were said, as many as the symbol says, from as far back as is told behind it. They may be among those that it says.
func (u *unpacker) sayAgain(symbol int, c codes) api.Errno {
	length, ok := u.toldBy(Length(symbol))
	if !ok {
		return api.ErrForm
	}
	symbol, ok = u.symbol(c.distances)
	if !ok {
		return api.ErrForm
	}
	back, ok := u.toldBy(Distance(symbol))
	if !ok || back > len(u.said) {
		return api.ErrForm
	}
	for range length {
		if !u.say(u.said[len(u.said)-back]) {
			return api.ErrLong
		}
	}
	return api.OK
}

// toldBy answers the number that a symbol says with its bits more; false, if it says none, or if the text ends ahead of them.
func (u *unpacker) toldBy(base, extra int, ok bool) (int, bool) {
	if !ok {
		return 0, false
	}
	return u.number(base, extra)
}

// say puts a byte behind what was said; false, if there is no room.
func (u *unpacker) say(b byte) bool {
	if len(u.said) == u.most {
		return false
	}
	u.said = append(u.said, b)
	return true
}
