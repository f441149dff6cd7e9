package nat

import (
	"cmp"
	"math"
	"math/bits"
)

// Div returns the quotient, rounded down, and the remainder, or false.
func Div(a, b Nat) (q, r Nat, ok bool) {
	switch {
	case b == (Nat{}):
		return Nat{}, Nat{}, false
	case bothSmall(a, b):
		return Of(a.low / b.low), Of(a.low % b.low), true
	case Cmp(a, b) < 0:
		return Nat{}, a, true
	case b.high == "":
		w := a.words()
		rest := divideByWord(w, b.low)
		return pack(w), Of(rest), true
	}
	quotient, rest := divideWords(a.words(), b.words())
	return pack(quotient), pack(rest), true
}

// divideWords returns the quotient and the remainder of x by y, which has at least two words and at most as many as x.
func divideWords(x, y []uint64) (quotient, rest []uint64) {
	n := len(y)
	// With the highest bit of the divisor 1, a digit that is estimated from two words of it is at most one too high.
	shift := bits.LeadingZeros64(y[n-1])
	d := shiftLeft(y, shift)[:n]
	rest = shiftLeft(x, shift)
	quotient = make([]uint64, len(x)-n+1)
	for i := range quotient {
		at := len(quotient) - 1 - i
		quotient[at] = takeDigit(rest[at:at+n+1], d)
	}
	return quotient, shiftRight(rest[:n], shift)
}

// takeDigit returns the digit of the quotient of rest by d, and takes that many times d from rest, which has one word
// more than d and is less than d times 2^64.
func takeDigit(rest, d []uint64) uint64 {
	n := len(d)
	digit := estimate(rest[n-2:], d[n-2:])
	if borrow := subProduct(rest[:n], d, digit); borrow > rest[n] {
		// The estimate, which leaves lower words of d out, was one too high.
		digit--
		addWords(rest[:n], d)
	}
	rest[n] = 0
	return digit
}

// estimate returns the quotient of the three words r by the two words d, or the greatest word where the highest words
// are equal; the highest bit of d is 1, and the highest word of r is at most that of d.
func estimate(r, d []uint64) uint64 {
	if r[2] == d[1] {
		return math.MaxUint64
	}
	// The quotient by the highest word of d alone is too high at most twice; rest is what it leaves of r[2] and r[1].
	digit, rest := bits.Div64(r[2], r[1], d[1])
	carry := uint64(0)
correction:
	for carry == 0 {
		high, low := bits.Mul64(digit, d[0])
		switch cmp.Or(cmp.Compare(high, rest), cmp.Compare(low, r[0])) {
		case 1:
			digit--
			rest, carry = bits.Add64(rest, d[1], 0)
		default:
			break correction
		}
	}
	return digit
}
