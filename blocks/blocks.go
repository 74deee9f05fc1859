// Package blocks holds what packers and unpackers of blocks (RFC 1951) agree on, so that it is told once.
package blocks

import "slices"

// The kinds of blocks.
const (
	Stored = 0 // bytes as they are
	Fixed  = 1 // by codes that all know
	Told   = 2 // by codes that the block tells
)

// The symbols that are no bytes: the end of a block, and lengths.
const (
	End         = 256
	FirstLength = 257
	LastLength  = 285
)

// How many bytes that were said may be said again by one symbol.
const (
	LeastLength    = 3
	GreatestLength = 258
)

// How many symbols mean something, and how many distances. Codes may have more of them, which mean nothing.
const (
	Symbols   = LastLength + 1
	Distances = 30
)

// The fewest that a block of kind 2 tells: lengths of the codes for symbols, and for distances, and of the code by which it tells these.
const (
	FewestSymbols   = FirstLength
	FewestDistances = 1
	FewestTold      = 4
)

// The symbols of which lengths are told that are no lengths: the last one again, and 0 some times, or many.
const (
	Again     = 16
	SomeZeros = 17
	ManyZeros = 18
)

// Order is the order in which the code for lengths is told: what is seldom there comes last, for the end need not be told.
func Order() [19]int {
	return [19]int{Again, SomeZeros, ManyZeros, 0, 8, 7, 9, 6, 10, 5, 11, 4, 12, 3, 13, 2, 14, 1, 15}
}

// Times answers how many lengths such a symbol says at least, and how many bits more there are; false, if it is a length.
func Times(symbol int) (base, extra int, ok bool) {
	switch symbol {
	case Again:
		return 3, 2, true
	case SomeZeros:
		return 3, 3, true
	case ManyZeros:
		return 11, 7, true
	}
	return 0, 0, false
}

// FixedLengths answers how long the codes of blocks of kind 1 are.
func FixedLengths() (symbols, distances []int) {
	symbols = slices.Concat(slices.Repeat([]int{8}, 144), slices.Repeat([]int{9}, 112), slices.Repeat([]int{7}, 24), slices.Repeat([]int{8}, 8))
	return symbols, slices.Repeat([]int{5}, 32)
}
