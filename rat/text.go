package rat

import (
	"strings"

	"census/nat"
)

// Read returns the number that s is as n or n/d.
func Read(s string) (Rat, bool) {
	first, second, divided := strings.Cut(s, "/")
	n, ok := nat.Read(first)
	if !ok {
		return Rat{}, false
	}
	if !divided {
		return pack(n, nat.Of(1)), true
	}
	d, ok := nat.Read(second)
	if !ok || nat.Cmp(d, nat.Of(1)) <= 0 || nat.Gcd(n, d) != nat.Of(1) {
		return Rat{}, false
	}
	return pack(n, d), true
}

// Text returns a number as n or n/d.
func (a Rat) Text() string {
	if a.den == (nat.Nat{}) {
		return a.num.Text()
	}
	return a.num.Text() + "/" + a.den.Text()
}
