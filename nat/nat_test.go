package nat_test

import (
	"math"
	"math/big"
	"math/rand/v2"
	"testing"

	"census/nat"
)

// Package math/big computes what the tests expect.

// build returns a number from its words of 32 bits, without a text.
func build(b *big.Int) nat.Nat {
	n, scale, mask := nat.Of(0), nat.Of(1<<32), big.NewInt(1<<32-1)
	for i := (b.BitLen() + 31) / 32 * 32; i > 0; i -= 32 {
		word := new(big.Int).And(new(big.Int).Rsh(b, uint(i-32)), mask)
		n = nat.Add(nat.Mul(n, scale), nat.Of(word.Uint64()))
	}
	return n
}

// same reports whether n is the number b, as a value and as a text.
func same(n nat.Nat, b *big.Int) bool { return n == build(b) && n.Text() == b.String() }

// brief returns a number for a message.
func brief(b *big.Int) string {
	s := b.String()
	if len(s) > 80 {
		return s[:40] + ".." + s[len(s)-40:]
	}
	return s
}

// power returns base to the power n.
func power(base int64, n int) *big.Int {
	return new(big.Int).Exp(big.NewInt(base), big.NewInt(int64(n)), nil)
}

// edges returns numbers at and beside the ends of words, digits and texts.
func edges() []*big.Int {
	var l []*big.Int
	near := func(b *big.Int) {
		for d := int64(-1); d <= 1; d++ {
			l = append(l, new(big.Int).Add(b, big.NewInt(d)))
		}
	}
	for n := range int64(12) {
		l = append(l, big.NewInt(n))
	}
	for _, n := range []int{8, 16, 31, 32, 33, 63, 64, 65, 95, 96, 127, 128, 129, 192, 256, 320} {
		near(power(2, n))
	}
	for _, n := range []int{9, 18, 19, 20, 38, 39, 57} {
		near(power(10, n))
	}
	return l
}

// patterns returns numbers of words that make digits of quotients hard to estimate, and long carries.
func patterns(r *rand.Rand, count, words int) []*big.Int {
	word := []uint64{0, 1, 2, 1<<31 - 1, 1 << 31, 1<<31 + 1, 1<<32 - 2, 1<<32 - 1}
	l := make([]*big.Int, count)
	for i := range l {
		l[i] = new(big.Int)
		for range 1 + r.IntN(words) {
			w := word[r.IntN(len(word))]
			if r.IntN(8) == 0 {
				w = uint64(r.Uint32())
			}
			l[i].Add(l[i].Lsh(l[i], 32), new(big.Int).SetUint64(w))
		}
	}
	return l
}

// samples returns numbers of many kinds, small ones first, and always the same.
func samples() []*big.Int {
	r := rand.New(rand.NewPCG(1, 2))
	l := append(edges(), patterns(r, 60, 12)...)
	return append(l, patterns(r, 6, 120)...)
}

func TestOf(t *testing.T) { // P1.1
	for _, n := range []uint64{0, 1, 9, 10, 255, 256, 1<<32 - 1, 1 << 32, 1 << 63, 1<<64 - 1} {
		if m := nat.Of(n); !same(m, new(big.Int).SetUint64(n)) {
			t.Error(n, m.Text())
		}
		if m, ok := nat.Of(n).Uint(); m != n || !ok {
			t.Error(n, m, ok)
		}
	}
}

func TestPow2(t *testing.T) { // P1.1
	for n := range 4097 {
		if p := nat.Pow2(n); p.Text() != power(2, n).String() || p.Len() != n+1 {
			t.Error(n, p.Len())
		}
	}
	double := nat.Of(1)
	for n := range 4097 {
		if nat.Pow2(n) != double {
			t.Error(n)
		}
		double = nat.Add(double, double)
	}
	for _, n := range []int{-1, -64, math.MinInt, 4097, 4160, 1 << 32, math.MaxInt} {
		if p := nat.Pow2(n); p != nat.Of(0) || p.Text() != "0" {
			t.Error(n, p.Text())
		}
	}
}

func TestUint(t *testing.T) { // P1.1
	for _, b := range samples() {
		m, ok := build(b).Uint()
		if ok != b.IsUint64() || ok && m != b.Uint64() || !ok && m != 0 {
			t.Error(brief(b), m, ok)
		}
	}
}

func TestLen(t *testing.T) { // P1.1
	for _, b := range samples() {
		if n := build(b).Len(); n != b.BitLen() {
			t.Error(brief(b), n)
		}
	}
	for n := range 4096 {
		less, _ := nat.Sub(nat.Pow2(n), nat.Of(1))
		if less.Len() != n {
			t.Error(n, less.Len())
		}
	}
}

func TestZeroValue(t *testing.T) {
	var zero nat.Nat
	if zero != nat.Of(0) || zero.Text() != "0" || zero.Len() != 0 {
		t.Error(zero.Text(), zero.Len())
	}
	if n, ok := zero.Uint(); n != 0 || !ok {
		t.Error(n, ok)
	}
	if nat.Add(zero, nat.Of(3)) != nat.Of(3) || nat.Mul(zero, nat.Pow2(70)) != zero || nat.Cmp(zero, nat.Of(1)) != -1 {
		t.Error("arithmetic")
	}
}

// TestEqual finds the same numbers in several ways: they are equal by ==, and no others are.
func TestEqual(t *testing.T) {
	l := samples()
	index := map[nat.Nat]string{}
	more := nat.Pow2(4096) // than all of them
	for _, b := range l {
		a := build(b)
		read, _ := nat.Read(b.String())
		back, _ := nat.Sub(nat.Add(a, more), more)
		q, r, _ := nat.Div(nat.Add(nat.Mul(a, more), a), more)
		g := nat.Gcd(nat.Mul(a, nat.Pow2(64)), nat.Mul(a, nat.Of(3)))
		if read != a && len(b.String()) <= 2000 || back != a || q != a || r != a || g != a {
			t.Error(brief(b))
		}
		if s, ok := index[a]; ok && s != b.String() {
			t.Error(brief(b), "equals", s)
		}
		index[a] = b.String()
	}
	for _, b := range l {
		for _, c := range l {
			if (build(b) == build(c)) != (b.Cmp(c) == 0) {
				t.Error(brief(b), brief(c))
			}
		}
	}
}

func TestCmp(t *testing.T) { // P1.4
	l := samples()
	n := make([]nat.Nat, len(l))
	for i, b := range l {
		n[i] = build(b)
	}
	for i, b := range l {
		for j, c := range l {
			if got := nat.Cmp(n[i], n[j]); got != b.Cmp(c) {
				t.Error(brief(b), brief(c), got)
			}
		}
	}
}

// TestSameness calls everything twice, with other calls in between: no result changes (R1, R5).
func TestSameness(t *testing.T) {
	a, b := nat.Pow2(300), nat.Mul(nat.Pow2(100), nat.Of(12345))
	type results struct {
		sum, rest, product, q, r, gcd, read, pow nat.Nat
		text                                     string
	}
	all := func(a, b nat.Nat) results {
		var l results
		l.sum, l.product, l.gcd = nat.Add(a, b), nat.Mul(a, b), nat.Gcd(a, b)
		l.rest, _ = nat.Sub(a, b)
		l.q, l.r, _ = nat.Div(a, b)
		l.read, _ = nat.Read("340282366920938463463374607431768211456")
		l.pow, l.text = nat.Pow2(200), a.Text()
		return l
	}
	first := all(a, b)
	text := first.sum.Text() + first.product.Text() + first.q.Text() + first.r.Text() + first.read.Text()
	all(b, nat.Of(7))
	all(nat.Mul(a, a), a)
	if all(a, b) != first || a != nat.Pow2(300) {
		t.Error("not the same")
	}
	if text != first.sum.Text()+first.product.Text()+first.q.Text()+first.r.Text()+first.read.Text() {
		t.Error("a result has changed")
	}
}
