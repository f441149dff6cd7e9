package nat_test

import (
	"math/rand/v2"
	"testing"

	"census/nat"
)

// triples calls f with numbers of many kinds.
func triples(f func(a, b, c nat.Nat)) {
	l := samples()
	n := make([]nat.Nat, len(l))
	for i, b := range l {
		n[i] = build(b)
	}
	r := rand.New(rand.NewPCG(5, 6))
	for range 4000 {
		f(n[r.IntN(len(n))], n[r.IntN(len(n))], n[r.IntN(len(n))])
	}
	for i := range 8 {
		for j := range 8 {
			for k := range 8 {
				f(n[i], n[j], n[k])
			}
		}
	}
}

func TestDivisionIsUnique(t *testing.T) { // P1.5
	for a := range uint64(40) {
		for b := uint64(1); b < 40; b++ {
			q, r, ok := nat.Div(nat.Of(a), nat.Of(b))
			if !ok {
				t.Error(a, b)
			}
			for x := range uint64(41) {
				for y := range b {
					if (x*b+y == a) != (q == nat.Of(x) && r == nat.Of(y)) {
						t.Error(a, b, q.Text(), r.Text(), x, y)
					}
				}
			}
		}
	}
}

func TestDivisionOfSums(t *testing.T) { // P1.5
	triples(func(q, b, c nat.Nat) {
		if b == nat.Of(0) {
			return
		}
		_, r, _ := nat.Div(c, b)
		if nat.Cmp(r, b) >= 0 {
			t.Fatal("a remainder that is not less than", b.Text())
		}
		a := nat.Add(nat.Mul(q, b), r)
		if q2, r2, ok := nat.Div(a, b); !ok || q2 != q || r2 != r {
			t.Fatal(a.Text(), b.Text(), q2.Text(), r2.Text())
		}
	})
}

func TestArithmetic(t *testing.T) { // P1.6
	triples(func(a, b, c nat.Nat) {
		switch {
		case nat.Add(a, b) != nat.Add(b, a), nat.Mul(a, b) != nat.Mul(b, a):
			t.Fatal("commutative", a.Text(), b.Text())
		case nat.Add(nat.Add(a, b), c) != nat.Add(a, nat.Add(b, c)), nat.Mul(nat.Mul(a, b), c) != nat.Mul(a, nat.Mul(b, c)):
			t.Fatal("associative", a.Text(), b.Text(), c.Text())
		case nat.Mul(a, nat.Add(b, c)) != nat.Add(nat.Mul(a, b), nat.Mul(a, c)):
			t.Fatal("distributive", a.Text(), b.Text(), c.Text())
		}
		if d, ok := nat.Sub(nat.Add(a, b), b); !ok || d != a {
			t.Fatal("Sub of Add", a.Text(), b.Text(), d.Text(), ok)
		}
		if nat.Add(a, nat.Of(0)) != a || nat.Mul(a, nat.Of(1)) != a || nat.Mul(a, nat.Of(0)) != nat.Of(0) {
			t.Fatal("0 and 1", a.Text())
		}
	})
}

func TestOrder(t *testing.T) { // P1.4
	triples(func(a, b, c nat.Nat) {
		if nat.Cmp(a, b) != -nat.Cmp(b, a) || nat.Cmp(nat.Add(a, c), nat.Add(b, c)) != nat.Cmp(a, b) {
			t.Fatal(a.Text(), b.Text(), c.Text())
		}
		if _, ok := nat.Sub(a, b); ok != (nat.Cmp(a, b) >= 0) {
			t.Fatal("Sub", a.Text(), b.Text())
		}
		if nat.Cmp(a, b) < 0 && nat.Cmp(b, c) < 0 && nat.Cmp(a, c) >= 0 {
			t.Fatal("not transitive", a.Text(), b.Text(), c.Text())
		}
	})
}

func TestDivisors(t *testing.T) { // P1.7
	triples(func(a, b, k nat.Nat) {
		g := nat.Gcd(a, b)
		if g != nat.Gcd(b, a) {
			t.Fatal("not the same in the other order", a.Text(), b.Text())
		}
		if _, r, ok := nat.Div(a, b); ok && g != nat.Gcd(b, r) {
			t.Fatal("remainder", a.Text(), b.Text())
		}
		if nat.Gcd(nat.Mul(k, a), nat.Mul(k, b)) != nat.Mul(k, g) {
			t.Fatal("multiple", a.Text(), b.Text(), k.Text())
		}
		for _, n := range []nat.Nat{a, b} {
			if _, r, ok := nat.Div(n, g); ok && r != nat.Of(0) {
				t.Fatal("no divisor", a.Text(), b.Text(), g.Text())
			}
		}
	})
}
