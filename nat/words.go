package nat

import (
	"cmp"
	"math/bits"
)

// The functions of this file compute with lists of words, the lowest one first.

const (
	wordBits  = 64
	wordBytes = 8
)

// loadWord returns the word of the first eight bytes of s, the most significant one first.
func loadWord(s string) uint64 {
	_ = s[wordBytes-1] // one check of the length instead of eight
	return uint64(s[0])<<56 | uint64(s[1])<<48 | uint64(s[2])<<40 | uint64(s[3])<<32 |
		uint64(s[4])<<24 | uint64(s[5])<<16 | uint64(s[6])<<8 | uint64(s[7])
}

// appendWord appends the eight bytes of a word, the most significant one first.
func appendWord(b []byte, w uint64) []byte {
	return append(b, byte(w>>56), byte(w>>48), byte(w>>40), byte(w>>32), byte(w>>24), byte(w>>16), byte(w>>8), byte(w))
}

// trim cuts off the words 0 at the end.
func trim(w []uint64) []uint64 {
	for len(w) > 0 && w[len(w)-1] == 0 {
		w = w[:len(w)-1]
	}
	return w
}

// compareWords returns -1, 0 or 1; neither list has a word 0 at the end.
func compareWords(x, y []uint64) int {
	if len(x) != len(y) {
		return cmp.Compare(len(x), len(y))
	}
	for i := range x {
		top := len(x) - 1 - i
		if x[top] != y[top] {
			return cmp.Compare(x[top], y[top])
		}
	}
	return 0
}

// addWords adds y to x, which is at least as long; what is carried beyond x is lost.
func addWords(x, y []uint64) {
	carry := uint64(0)
	for i := range y {
		x[i], carry = bits.Add64(x[i], y[i], carry)
	}
	for i := len(y); carry > 0 && i < len(x); i++ {
		x[i], carry = bits.Add64(x[i], 0, carry)
	}
}

// subWords takes y from x, which is at least as great.
func subWords(x, y []uint64) {
	borrow := uint64(0)
	for i := range y {
		x[i], borrow = bits.Sub64(x[i], y[i], borrow)
	}
	for i := len(y); borrow > 0; i++ {
		x[i], borrow = bits.Sub64(x[i], 0, borrow)
	}
}

// addProduct adds d times x to z, which is as long as x, and returns what is carried beyond z.
func addProduct(z, x []uint64, d uint64) uint64 {
	carry := uint64(0)
	for i := range x {
		high, low := bits.Mul64(x[i], d)
		low, c := bits.Add64(low, carry, 0)
		high += c
		z[i], c = bits.Add64(z[i], low, 0)
		carry = high + c
	}
	return carry
}

// subProduct takes d times x from z, which is as long as x, and returns what is borrowed from beyond z.
func subProduct(z, x []uint64, d uint64) uint64 {
	borrow := uint64(0)
	for i := range x {
		high, low := bits.Mul64(x[i], d)
		low, c := bits.Add64(low, borrow, 0)
		high += c
		z[i], c = bits.Sub64(z[i], low, 0)
		borrow = high + c
	}
	return borrow
}

// scaleWords returns d times w plus carry, in the memory of w if that has room for another word.
func scaleWords(w []uint64, d, carry uint64) []uint64 {
	for i := range w {
		high, low := bits.Mul64(w[i], d)
		low, c := bits.Add64(low, carry, 0)
		w[i], carry = low, high+c
	}
	return append(w, carry)
}

// divideByWord divides w by d, which is not 0, in place, and returns the remainder.
func divideByWord(w []uint64, d uint64) uint64 {
	rest := uint64(0)
	for i := range w {
		top := len(w) - 1 - i
		w[top], rest = bits.Div64(rest, w[top], d)
	}
	return rest
}

// shiftLeft returns w times 2 to the power n in new memory, with one word more than w and the shift by words need.
func shiftLeft(w []uint64, n int) []uint64 {
	skip, shift := n/wordBits, n%wordBits
	z := make([]uint64, skip+len(w)+1)
	copy(z[skip:], w)
	carry := uint64(0)
	for i := skip; i < len(z); i++ {
		z[i], carry = z[i]<<shift|carry, z[i]>>(wordBits-shift)
	}
	return z
}

// shiftRight divides w by 2 to the power n in place, rounded down; w has more than n bits, those that are 0 included.
func shiftRight(w []uint64, n int) []uint64 {
	skip, shift := n/wordBits, n%wordBits
	w = w[:copy(w, w[skip:])]
	for i := range len(w) - 1 {
		w[i] = w[i]>>shift | w[i+1]<<(wordBits-shift)
	}
	w[len(w)-1] >>= shift
	return trim(w)
}

// zeroBits returns the number of bits 0 below the lowest bit 1 of w, which is not 0.
func zeroBits(w []uint64) int {
	skip := 0
	for w[skip] == 0 {
		skip++
	}
	return skip*wordBits + bits.TrailingZeros64(w[skip])
}
