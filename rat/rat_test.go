package rat_test

import (
	"math"
	"math/big"
	"math/rand/v2"
	"testing"

	"census/nat"
	"census/rat"
)

// Package math/big computes what the tests expect.

// whole returns a natural number, in parts that nat.Read takes.
func whole(b *big.Int) nat.Nat {
	if b.BitLen() <= 4096 {
		n, _ := nat.Read(b.String())
		return n
	}
	high := new(big.Int).Rsh(b, 4096)
	low := new(big.Int).Sub(b, new(big.Int).Lsh(high, 4096))
	return nat.Add(nat.Mul(whole(high), nat.Pow2(4096)), whole(low))
}

// build returns a rational number.
func build(b *big.Rat) rat.Rat {
	a, _ := rat.New(whole(b.Num()), whole(b.Denom()))
	return a
}

// same reports whether a is the number b, in lowest terms.
func same(a rat.Rat, b *big.Rat) bool {
	return a.Text() == b.RatString() && a.Num() == whole(b.Num()) && a.Den() == whole(b.Denom())
}

// isZero reports whether a is what a call returns together with false.
func isZero(a rat.Rat) bool { return same(a, new(big.Rat)) && rat.Cmp(a, rat.Rat{}) == 0 }

// of returns n divided by d.
func of(n, d uint64) rat.Rat {
	a, _ := rat.Of(n, d)
	return a
}

// brief returns a number for a message.
func brief(b *big.Rat) string {
	s := b.RatString()
	if len(s) > 80 {
		return s[:40] + ".." + s[len(s)-40:]
	}
	return s
}

// power returns base to the power n.
func power(base int64, n int) *big.Int {
	return new(big.Int).Exp(big.NewInt(base), big.NewInt(int64(n)), nil)
}

// product returns a product of powers of small primes, so that two of them have common divisors of many kinds.
func product(r *rand.Rand, most int) *big.Int {
	b := big.NewInt(1)
	for _, prime := range []int64{2, 3, 5, 7, 4294967291, 4294967311} {
		b.Mul(b, power(prime, r.IntN(most)))
	}
	return b
}

// parts returns numerators and denominators: small ones, some beside the ends of words, and products.
func parts(r *rand.Rand) []*big.Int {
	var l []*big.Int
	for n := range int64(8) {
		l = append(l, big.NewInt(n+1))
	}
	for _, n := range []int{32, 63, 64, 65, 128} {
		for d := int64(-1); d <= 1; d++ {
			l = append(l, new(big.Int).Add(power(2, n), big.NewInt(d)))
		}
	}
	for range 20 {
		l = append(l, product(r, 3))
	}
	for range 5 {
		l = append(l, product(r, 20))
	}
	return l
}

// samples returns numbers of many kinds, small ones first, and always the same.
func samples() []*big.Rat {
	l := []*big.Rat{new(big.Rat)}
	for d := int64(1); d <= 6; d++ {
		for n := int64(1); n <= 6; n++ {
			l = append(l, big.NewRat(n, d))
		}
	}
	r := rand.New(rand.NewPCG(1, 2))
	p := parts(r)
	for range 100 {
		l = append(l, new(big.Rat).SetFrac(p[r.IntN(len(p))], p[r.IntN(len(p))]))
	}
	return l
}

func TestOf(t *testing.T) { // P2.1
	l := []uint64{0, 1, 2, 3, 4, 5, 6, 7, 8, 9, 10, 12, 30, 1<<32 - 1, 1 << 32, 1<<63 - 1, 1 << 63, math.MaxUint64}
	for _, n := range l {
		for _, d := range l {
			x, y := new(big.Int).SetUint64(n), new(big.Int).SetUint64(d)
			want := new(big.Rat)
			if d != 0 {
				want.SetFrac(x, y)
			}
			if a, ok := rat.Of(n, d); ok != (d != 0) || !same(a, want) {
				t.Error("Of", n, d, a.Text(), ok)
			}
			if a, ok := rat.New(nat.Of(n), nat.Of(d)); ok != (d != 0) || !same(a, want) {
				t.Error("New", n, d, a.Text(), ok)
			}
		}
	}
}

func TestNew(t *testing.T) { // P2.1
	l := parts(rand.New(rand.NewPCG(3, 4)))
	for _, n := range l {
		for _, d := range l {
			want := new(big.Rat).SetFrac(n, d)
			if a, ok := rat.New(whole(n), whole(d)); !ok || !same(a, want) {
				t.Error(n, d, a.Text(), ok)
			}
		}
		if a, ok := rat.New(whole(n), nat.Of(0)); ok || !isZero(a) {
			t.Error(n, "by 0", a.Text(), ok)
		}
		if a, ok := rat.New(nat.Of(0), whole(n)); !ok || !isZero(a) {
			t.Error("0 by", n, a.Text(), ok)
		}
	}
}

func TestZeroValue(t *testing.T) {
	var zero rat.Rat
	if zero.Text() != "0" || zero.Num() != nat.Of(0) || zero.Den() != nat.Of(1) {
		t.Error(zero.Text(), zero.Num().Text(), zero.Den().Text())
	}
	third := of(1, 3)
	if rat.Cmp(zero, of(0, 7)) != 0 || rat.Cmp(zero, third) != -1 || rat.Cmp(third, zero) != 1 {
		t.Error("Cmp")
	}
	if s := rat.Add(zero, third).Text() + " " + rat.Add(third, zero).Text() + " " + rat.Mul(third, zero).Text(); s != "1/3 1/3 0" {
		t.Error(s)
	}
	if d, ok := rat.Sub(third, zero); !ok || d.Text() != "1/3" {
		t.Error("1/3 - 0", d.Text(), ok)
	}
	if q, ok := rat.Div(zero, third); !ok || !isZero(q) {
		t.Error("0 by 1/3", q.Text(), ok)
	}
	if q, ok := rat.Div(zero, zero); ok || !isZero(q) {
		t.Error("0 by 0", q.Text(), ok)
	}
}

// TestSameness calls everything twice, with other calls in between: no argument and no result changes (R1, R5).
func TestSameness(t *testing.T) {
	all := func(a, b rat.Rat) string {
		rest, _ := rat.Sub(a, b)
		q, _ := rat.Div(a, b)
		l := []rat.Rat{a, b, rat.Add(a, b), rest, rat.Mul(a, b), q}
		s := ""
		for _, x := range l {
			s += x.Text() + " "
		}
		return s
	}
	a := build(new(big.Rat).SetFrac(power(6, 200), power(35, 90)))
	b := build(new(big.Rat).SetFrac(power(10, 50), power(21, 80)))
	first := all(a, b)
	all(b, a)
	all(rat.Add(a, b), a)
	if second := all(a, b); second != first {
		t.Error(first, second)
	}
}
