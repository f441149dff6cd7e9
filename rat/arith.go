package rat

import "census/nat"

// Add returns a + b.
func Add(a, b Rat) Rat {
	var sum nat.Nat
	g := nat.Gcd(a.Den(), b.Den())
	overOne(a, b, g, func(x, y nat.Nat) { sum = nat.Add(x, y) })
	return lowest(sum, a.Den(), b.Den(), g)
}

// Sub returns a - b, or false.
func Sub(a, b Rat) (Rat, bool) {
	var rest nat.Nat
	ok := false
	g := nat.Gcd(a.Den(), b.Den())
	overOne(a, b, g, func(x, y nat.Nat) { rest, ok = nat.Sub(x, y) })
	if !ok {
		return Rat{}, false
	}
	return lowest(rest, a.Den(), b.Den(), g), true
}

// Mul returns a times b.
func Mul(a, b Rat) Rat {
	// Only the numerator of one and the denominator of the other can have common divisors: to cancel them first keeps
	// the numbers small.
	g, h := nat.Gcd(a.num, b.Den()), nat.Gcd(b.num, a.Den())
	return pack(
		nat.Mul(quotient(a.num, g), quotient(b.num, h)),
		nat.Mul(quotient(a.Den(), h), quotient(b.Den(), g)))
}

// Div returns a divided by b, or false.
func Div(a, b Rat) (Rat, bool) {
	if b.num == (nat.Nat{}) {
		return Rat{}, false
	}
	return Mul(a, pack(b.Den(), b.num)), true
}

// Cmp returns -1, 0 or 1.
func Cmp(a, b Rat) int {
	order := 0
	// To find a greater divisor than 1 would take longer than the products.
	overOne(a, b, nat.Of(1), func(x, y nat.Nat) { order = nat.Cmp(x, y) })
	return order
}

// overOne calls f with the numerators of a and b over one denominator: the product of theirs, divided by their common
// divisor g.
func overOne(a, b Rat, g nat.Nat, f func(x, y nat.Nat)) {
	f(nat.Mul(a.num, quotient(b.Den(), g)), nat.Mul(b.num, quotient(a.Den(), g)))
}

// lowest returns the sum or difference n of two numbers over the least common multiple of their denominators c and d,
// whose greatest common divisor is g.
func lowest(n, c, d, g nat.Nat) Rat {
	// A prime that divides c and d to different powers divides just one of the two numerators over the multiple, and so
	// not n; any other one divides the multiple as often as g.
	h := nat.Gcd(n, g)
	return pack(quotient(n, h), nat.Mul(quotient(c, g), quotient(d, h)))
}
