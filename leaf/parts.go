package leaf

import (
	"engrosser/api"
	"engrosser/wire"
)

// longest is the most bytes that an entry is written in: the common part, itself, and its chain.
const longest = 2 + 6 + 2 + sumSize + (3 + api.MaxBody) + (2 + 1 + 2 + 5) + (3 + api.MaxBody) + (2 + api.MaxChain*sumSize)

// part writes some of an entry. The entry must be right: then there is nothing in it that can't be written.
type part func(w *wire.Writer)

// written answers what the parts of e write, one behind the other; ErrArg, if e is not right.
func written(e api.Entry, parts ...part) (string, api.Errno) {
	if !Right(e) {
		return "", api.ErrArg
	}
	w := wire.NewWriter()
	together(parts...)(w)
	return w.Bytes()
}

// together is the parts as one, each behind the one ahead of it.
func together(parts ...part) part {
	return func(w *wire.Writer) {
		for _, write := range parts {
			write(w)
		}
	}
}

// onlyIf is the parts if they are wanted, else nothing.
func onlyIf(wanted bool, parts ...part) part {
	if !wanted {
		return together()
	}
	return together(parts...)
}

// number is n in size bytes.
func number(n, size int) part {
	return func(w *wire.Writer) { w.Number(n, size) }
}

// raw is s as it is.
func raw(s string) part {
	return func(w *wire.Writer) { w.Raw(s) }
}

// opaque is s with its length in size bytes ahead.
func opaque(s string, size int) part {
	return func(w *wire.Writer) { w.Opaque(s, size) }
}

// merkle is what the tree is of.
func merkle(e api.Entry) part {
	return together(number(0, 2), common(e))
}

// common is what all that is written of e has.
func common(e api.Entry) part {
	return together(
		// Eight bytes, which are more than a number may have; a right time needs no more than the last six.
		number(0, 2), number(e.Time, 6),
		number(kind(e), 2),
		onlyIf(e.Pre, raw(e.Key)),
		opaque(e.Body, 3),
		// The place, with the lengths of all that tells it ahead.
		number(1+2+5, 2), number(0, 1), number(5, 2), number(e.Index, 5),
	)
}

// kind is how the bytes tell whether e is a precertificate.
func kind(e api.Entry) int {
	if e.Pre {
		return 1
	}
	return 0
}

// looseRead answers the entry that s begins with; of other bytes any entry, right or not.
func looseRead(s string) api.Entry {
	e := api.Entry{}
	// A reader copies what it is handed, and who takes many entries apart hands in all that is there yet, each time.
	r := wire.NewReader(s[:min(len(s), longest)])
	r.Raw(2)
	e.Time = r.Number(6)
	e.Pre = r.Number(2) == 1
	if e.Pre {
		e.Key = r.Raw(sumSize)
	}
	e.Body = r.Opaque(3)
	r.Raw(2 + 1 + 2)
	e.Index = r.Number(5)
	if e.Pre {
		e.Full = r.Opaque(3)
	}
	for range r.Number(2) / sumSize {
		e.Chain = append(e.Chain, r.Raw(sumSize))
	}
	return e
}
