// Package word is layer 1: the parts of a word of 64 bits.
package word

import (
	"triforium/api"
)

const (
	bits     = 64 // of a word
	perDigit = 4  // bits that one digit of base 16 tells
	length   = bits / perDigit
)

// digits stand in the order of what they count.
var digits = [1 << perDigit]byte{'0', '1', '2', '3', '4', '5', '6', '7', '8', '9', 'a', 'b', 'c', 'd', 'e', 'f'}

// Get answers the number that the n bits of w from the bit at on are; false, if there is no such part.
func Get(w uint64, at, n int) (uint64, bool) {
	if !isPart(at, n) {
		return 0, false
	}
	return w >> at & ones(n), true
}

// Put answers w with x as its n bits from the bit at on; false, if there is no such part or x does not fit it.
func Put(w uint64, at, n int, x uint64) (uint64, bool) {
	if !isPart(at, n) || x > ones(n) {
		return 0, false
	}
	return w&^(ones(n)<<at) | x<<at, true
}

// Ones counts the bits of w that are 1.
func Ones(w uint64) int {
	count := 0
	for at := range bits {
		if isOne(w, at) {
			count++
		}
	}
	return count
}

// Low answers the lowest bit of w that is 1; -1, if there is none.
func Low(w uint64) int {
	return firstOne(w, places(0, 1))
}

// High answers the highest bit of w that is 1; -1, if there is none.
func High(w uint64) int {
	return firstOne(w, places(bits-1, -1))
}

// Hex writes w as sixteen digits of base 16, the highest first.
func Hex(w uint64) string {
	var text [length]byte
	next := places(bits-perDigit, -perDigit)
	for i := range length {
		text[i] = digits[w>>next()&ones(perDigit)]
	}
	return string(text[:])
}

// Read answers the word whose Hex s is; ErrForm, if there is none.
func Read(s string) (uint64, api.Errno) {
	if len(s) != length {
		return 0, api.ErrForm
	}
	var w uint64
	next := places(bits-perDigit, -perDigit)
	for i := range length {
		x, ok := digitOf(s[i])
		if !ok {
			return 0, api.ErrForm
		}
		w |= x << next()
	}
	return w, api.OK
}

// isPart asks n against what is left behind at: a sum of the two may run past every int.
func isPart(at, n int) bool {
	return at >= 0 && n >= 1 && n <= bits-at
}

// ones is a word whose n lowest bits are 1: of 64 the shift leaves nothing, and 0 - 1 is all of them.
func ones(n int) uint64 {
	return 1<<n - 1
}

func isOne(w uint64, at int) bool {
	return w>>at&1 == 1
}

// firstOne looks at each bit of w once, in the order in which next tells their places.
func firstOne(w uint64, next func() int) int {
	for range bits {
		if at := next(); isOne(w, at) {
			return at
		}
	}
	return -1
}

// places tells, call by call, the places from at on, each so many steps behind the one ahead.
func places(at, step int) func() int {
	return func() int {
		here := at
		at += step
		return here
	}
}

func digitOf(c byte) (uint64, bool) {
	for x, d := range digits {
		if d == c {
			return uint64(x), true
		}
	}
	return 0, false
}
