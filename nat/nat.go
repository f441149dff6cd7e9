// Package nat is layer 1: natural numbers of any size. See shared/doc/01-nat.md.
package nat

import (
	"cmp"
	"math/bits"
	"strings"
)

// maxPow is the greatest exponent that Pow2 takes.
const maxPow = 4096

// Nat is a natural number. The bytes of high are its words above the lowest one, the most significant byte first and
// without a word 0 ahead: a string, so that equal numbers are equal values; and the lowest word stands apart, so that
// small numbers need no other memory.
type Nat struct {
	low  uint64
	high string
}

// Of returns a number.
func Of(n uint64) Nat { return Nat{low: n} }

// Pow2 returns 2 to the power n, for n from 0 to 4096, or 0.
func Pow2(n int) Nat {
	if n < 0 || n > maxPow {
		return Nat{}
	}
	return pack(shiftLeft([]uint64{1}, n))
}

// Uint returns a number as an uint64, if it fits.
func (a Nat) Uint() (uint64, bool) {
	if a.high != "" {
		return 0, false
	}
	return a.low, true
}

// Len returns the number of bits of a number.
func (a Nat) Len() int {
	if a.high == "" {
		return bits.Len64(a.low)
	}
	return len(a.high)*8 + bits.Len64(loadWord(a.high))
}

// Cmp returns -1, 0 or 1.
func Cmp(a, b Nat) int {
	if a == b {
		return 0
	}
	// Without words 0 ahead, more words mean a greater number; of as many words, the bytes decide from the top on.
	return cmp.Or(
		cmp.Compare(len(a.high), len(b.high)),
		strings.Compare(a.high, b.high),
		cmp.Compare(a.low, b.low))
}

// bothSmall reports whether both numbers are of one word, as most are.
func bothSmall(a, b Nat) bool { return a.high == "" && b.high == "" }

// words returns the words of a number in new memory, the lowest one first, and none that is 0 at the end.
func (a Nat) words() []uint64 {
	n := len(a.high) / wordBytes
	w := make([]uint64, n+1)
	w[0] = a.low
	for i := range n {
		w[n-i] = loadWord(a.high[i*wordBytes:])
	}
	return trim(w)
}

// pack returns the number with the given words, the lowest one first.
func pack(w []uint64) Nat {
	w = trim(w)
	switch len(w) {
	case 0:
		return Nat{}
	case 1:
		return Of(w[0])
	}
	b := make([]byte, 0, (len(w)-1)*wordBytes)
	for i := range len(w) - 1 {
		b = appendWord(b, w[len(w)-1-i])
	}
	return Nat{w[0], string(b)}
}
