package rat_test

import (
	"math/rand/v2"
	"testing"

	"census/nat"
	"census/rat"
)

// triples calls f with numbers of many kinds.
func triples(f func(a, b, c rat.Rat)) {
	l := samples()
	n := make([]rat.Rat, len(l))
	for i, b := range l {
		n[i] = build(b)
	}
	r := rand.New(rand.NewPCG(5, 6))
	for range 5000 {
		f(n[r.IntN(len(n))], n[r.IntN(len(n))], n[r.IntN(len(n))])
	}
	for i := range 12 {
		for j := range 12 {
			for k := range 12 {
				f(n[i], n[j], n[k])
			}
		}
	}
}

// equal reports whether two numbers are the same, by their order and by their texts, and one only if the other.
func equal(t *testing.T, a, b rat.Rat) bool {
	t.Helper()
	if (rat.Cmp(a, b) == 0) != (a.Text() == b.Text()) {
		t.Fatal("order and text", a.Text(), b.Text())
	}
	return rat.Cmp(a, b) == 0
}

func TestArithmetic(t *testing.T) { // P2.5
	triples(func(a, b, c rat.Rat) {
		switch {
		case !equal(t, rat.Add(a, b), rat.Add(b, a)), !equal(t, rat.Mul(a, b), rat.Mul(b, a)):
			t.Fatal("commutative", a.Text(), b.Text())
		case !equal(t, rat.Add(rat.Add(a, b), c), rat.Add(a, rat.Add(b, c))),
			!equal(t, rat.Mul(rat.Mul(a, b), c), rat.Mul(a, rat.Mul(b, c))):
			t.Fatal("associative", a.Text(), b.Text(), c.Text())
		case !equal(t, rat.Mul(a, rat.Add(b, c)), rat.Add(rat.Mul(a, b), rat.Mul(a, c))):
			t.Fatal("distributive", a.Text(), b.Text(), c.Text())
		case !equal(t, rat.Add(of(0, 1), a), a), !equal(t, rat.Mul(of(1, 1), a), a), !isZero(rat.Mul(rat.Rat{}, a)):
			t.Fatal("0 and 1", a.Text())
		}
	})
}

func TestUndoing(t *testing.T) { // P2.6
	triples(func(a, b, _ rat.Rat) {
		if d, ok := rat.Sub(rat.Add(a, b), b); !ok || !equal(t, d, a) {
			t.Fatal("Sub of Add", a.Text(), b.Text(), d.Text(), ok)
		}
		if isZero(b) {
			return
		}
		if q, ok := rat.Div(rat.Mul(a, b), b); !ok || !equal(t, q, a) {
			t.Fatal("Div of Mul", a.Text(), b.Text(), q.Text(), ok)
		}
		if q, ok := rat.Div(a, b); !ok || !equal(t, rat.Mul(q, b), a) {
			t.Fatal("Mul of Div", a.Text(), b.Text(), q.Text(), ok)
		}
	})
}

func TestOrder(t *testing.T) { // P2.7
	triples(func(a, b, c rat.Rat) {
		order := rat.Cmp(a, b)
		if order < -1 || order > 1 || order != -rat.Cmp(b, a) || rat.Cmp(a, a) != 0 {
			t.Fatal("opposite", a.Text(), b.Text(), order)
		}
		if order <= 0 && rat.Cmp(b, c) <= 0 && rat.Cmp(a, c) != min(order, rat.Cmp(b, c)) {
			t.Fatal("not transitive", a.Text(), b.Text(), c.Text())
		}
		if _, ok := rat.Sub(a, b); ok != (order != -1) {
			t.Fatal("Sub", a.Text(), b.Text(), ok)
		}
		if rat.Cmp(rat.Add(a, c), rat.Add(b, c)) != order {
			t.Fatal("Add", a.Text(), b.Text(), c.Text())
		}
		if !isZero(c) && rat.Cmp(rat.Mul(a, c), rat.Mul(b, c)) != order {
			t.Fatal("Mul", a.Text(), b.Text(), c.Text())
		}
	})
}

func TestLowestTerms(t *testing.T) { // P2.8
	triples(func(a, b, c rat.Rat) {
		rest, _ := rat.Sub(a, c)
		q, _ := rat.Div(c, b)
		for _, x := range []rat.Rat{a, rat.Add(a, b), rat.Mul(b, c), rest, q} {
			if x.Den() == nat.Of(0) || nat.Gcd(x.Num(), x.Den()) != nat.Of(1) {
				t.Fatal(x.Num().Text(), x.Den().Text())
			}
			if back, ok := rat.Read(x.Text()); !ok || !equal(t, back, x) {
				t.Fatal("Read", x.Text(), back.Text(), ok)
			}
		}
		equal(t, a, b)
	})
}
