package nat

import "math/bits"

// Add returns a + b.
func Add(a, b Nat) Nat {
	if bothSmall(a, b) {
		if sum, carry := bits.Add64(a.low, b.low, 0); carry == 0 {
			return Of(sum)
		}
	}
	if Cmp(a, b) < 0 {
		a, b = b, a
	}
	x, y := a.words(), b.words()
	sum := make([]uint64, len(x)+1)
	copy(sum, x)
	addWords(sum, y)
	return pack(sum)
}

// Sub returns a - b, or false.
func Sub(a, b Nat) (Nat, bool) {
	if Cmp(a, b) < 0 {
		return Nat{}, false
	}
	if bothSmall(a, b) {
		return Of(a.low - b.low), true
	}
	rest := a.words()
	subWords(rest, b.words())
	return pack(rest), true
}

// Mul returns a times b.
func Mul(a, b Nat) Nat {
	if bothSmall(a, b) {
		if high, low := bits.Mul64(a.low, b.low); high == 0 {
			return Of(low)
		}
	}
	x, y := a.words(), b.words()
	product := make([]uint64, len(x)+len(y))
	for i := range y {
		end := i + len(x)
		product[end] = addProduct(product[i:end], x, y[i])
	}
	return pack(product)
}

// Gcd returns the greatest common divisor.
func Gcd(a, b Nat) Nat {
	if Cmp(a, b) < 0 {
		a, b = b, a
	}
	if b == (Nat{}) {
		return a
	}
	// One division makes numbers of very different lengths alike.
	_, r, _ := Div(a, b)
	switch {
	case r == (Nat{}):
		return b
	case bothSmall(b, r):
		return Of(gcdWord(b.low, r.low))
	}
	return pack(gcdWords(b.words(), r.words()))
}

// gcdWord returns the greatest common divisor of two words.
func gcdWord(x, y uint64) uint64 {
	for y != 0 {
		x, y = y, x%y
	}
	return x
}

// gcdWords returns the greatest common divisor of x and y, which are not 0. It subtracts and halves in their memory,
// since a division for each step would take new memory each time.
func gcdWords(x, y []uint64) []uint64 {
	twosX, twosY := zeroBits(x), zeroBits(y)
	x, y = shiftRight(x, twosX), shiftRight(y, twosY)
	for {
		switch compareWords(x, y) {
		case 0:
			return shiftLeft(x, min(twosX, twosY))
		case 1:
			x, y = y, x
		}
		subWords(y, x)
		y = shiftRight(y, zeroBits(y))
	}
}
