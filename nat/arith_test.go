package nat_test

import (
	"math/big"
	"math/rand/v2"
	"testing"

	"census/nat"
)

// checkPair compares all operations on two numbers with those of math/big.
func checkPair(t *testing.T, x, y *big.Int) {
	t.Helper()
	a, b := build(x), build(y)
	if sum := nat.Add(a, b); !same(sum, new(big.Int).Add(x, y)) {
		t.Error("Add", brief(x), brief(y), sum.Text())
	}
	if product := nat.Mul(a, b); !same(product, new(big.Int).Mul(x, y)) {
		t.Error("Mul", brief(x), brief(y), product.Text())
	}
	rest, ok := nat.Sub(a, b)
	want := new(big.Int).Sub(x, y)
	if want.Sign() < 0 {
		want.SetInt64(0)
	}
	if ok != (x.Cmp(y) >= 0) || !same(rest, want) {
		t.Error("Sub", brief(x), brief(y), rest.Text(), ok)
	}
	if g := nat.Gcd(a, b); !same(g, new(big.Int).GCD(nil, nil, x, y)) {
		t.Error("Gcd", brief(x), brief(y), g.Text())
	}
	q, r, ok := nat.Div(a, b)
	wantQ, wantR := new(big.Int), new(big.Int)
	if y.Sign() > 0 {
		wantQ.QuoRem(x, y, wantR)
	}
	if ok != (y.Sign() > 0) || !same(q, wantQ) || !same(r, wantR) {
		t.Error("Div", brief(x), brief(y), q.Text(), r.Text(), ok)
	}
	if a != build(x) || b != build(y) {
		t.Error("an argument has changed", brief(x), brief(y))
	}
}

func TestPairs(t *testing.T) { // P1.3, P1.4
	l := samples()
	for _, x := range l {
		for _, y := range l {
			checkPair(t, x, y)
		}
	}
}

func TestSmallPairs(t *testing.T) { // P1.3, P1.4
	for x := range int64(70) {
		for y := range int64(70) {
			checkPair(t, big.NewInt(x), big.NewInt(y))
		}
	}
}

// TestQuotients divides products, and numbers beside them, by their factors: so digits are estimated too high, and
// remainders are 0, or one less than the divisor.
func TestQuotients(t *testing.T) { // P1.4
	r := rand.New(rand.NewPCG(3, 4))
	x, y := patterns(r, 2000, 12), patterns(r, 2000, 8)
	for i := range x {
		if y[i].Sign() == 0 {
			continue
		}
		product := new(big.Int).Mul(x[i], y[i])
		for _, d := range []int64{-1, 0, 1} {
			if p := new(big.Int).Add(product, big.NewInt(d)); p.Sign() >= 0 {
				checkPair(t, p, y[i])
			}
		}
		checkPair(t, x[i], y[i])
	}
}

// TestHardDigits has divisors for which the first estimate of a digit is too high, and too high again.
func TestHardDigits(t *testing.T) { // P1.4
	for _, size := range []int{8, 16, 32, 64} {
		half, full := power(2, size-1), power(2, size)
		for _, high := range []int64{0, 1, 2} {
			for _, low := range []int64{0, 1, 2, 3} {
				// A divisor of three words: half a word, words 0 or all ones, and a last word.
				d := new(big.Int).Add(half, big.NewInt(high))
				d.Sub(d.Mul(d, full), big.NewInt(high))
				d.Sub(d.Mul(d, full), big.NewInt(low))
				for _, n := range []int64{0, 1, 2, 3} {
					for words := 1; words <= 4; words++ {
						x := new(big.Int).Mul(d, power(2, size*words))
						checkPair(t, x.Sub(x, big.NewInt(n)), d)
						checkPair(t, new(big.Int).Sub(power(2, size*(words+3)), big.NewInt(n)), d)
					}
				}
			}
		}
	}
}

func TestCarries(t *testing.T) { // P1.3
	for n := range 300 {
		pow, less := power(2, n), new(big.Int).Sub(power(2, n), big.NewInt(1))
		for _, d := range []int64{0, 1, 2} {
			checkPair(t, less, big.NewInt(d))
			checkPair(t, pow, big.NewInt(d))
		}
		checkPair(t, less, less)
		checkPair(t, less, pow)
		checkPair(t, pow, less)
		checkPair(t, pow, power(2, 300-n))
	}
}

func TestSub(t *testing.T) { // P1.3
	for _, x := range samples() {
		a := build(x)
		if d, ok := nat.Sub(a, a); !ok || d != nat.Of(0) {
			t.Error(brief(x), d.Text(), ok)
		}
		if d, ok := nat.Sub(a, nat.Add(a, nat.Of(1))); ok || d != nat.Of(0) {
			t.Error(brief(x), d.Text(), ok)
		}
		if d, ok := nat.Sub(a, nat.Of(0)); !ok || d != a {
			t.Error(brief(x), d.Text(), ok)
		}
	}
}

func TestByZero(t *testing.T) { // P1.4
	for _, x := range samples() {
		a := build(x)
		if q, r, ok := nat.Div(a, nat.Of(0)); ok || q != nat.Of(0) || r != nat.Of(0) {
			t.Error(brief(x), q.Text(), r.Text(), ok)
		}
		if nat.Gcd(a, nat.Of(0)) != a || nat.Gcd(nat.Of(0), a) != a || nat.Gcd(a, a) != a || nat.Gcd(a, nat.Of(1)) != nat.Of(1) {
			t.Error("Gcd", brief(x))
		}
	}
}

// TestExamples has the examples of the chapter.
func TestExamples(t *testing.T) {
	texts := func(l ...nat.Nat) string {
		s := ""
		for _, n := range l {
			s += n.Text() + " "
		}
		return s
	}
	if s := texts(nat.Mul(nat.Of(1<<64-1), nat.Of(1<<64-1))); s != "340282366920938463426481119284349108225 " {
		t.Error(s)
	}
	q, r, ok := nat.Div(build(power(10, 20)), nat.Of(7))
	if s := texts(q, r); s != "14285714285714285714 2 " || !ok {
		t.Error(s, ok)
	}
	if _, _, ok := nat.Div(nat.Of(5), nat.Of(0)); ok {
		t.Error("5 by 0")
	}
	if s := texts(nat.Gcd(nat.Pow2(70), build(power(6, 20))), nat.Gcd(nat.Of(0), nat.Of(0))); s != "1048576 0 " {
		t.Error(s)
	}
	if _, ok := nat.Sub(nat.Of(3), nat.Of(5)); ok {
		t.Error("3 - 5")
	}
	if d, ok := nat.Sub(nat.Of(5), nat.Of(5)); !ok || d != nat.Of(0) {
		t.Error("5 - 5")
	}
	zero, ok := nat.Read("0")
	if !ok || zero != nat.Of(0) {
		t.Error("0")
	}
	for _, s := range []string{"00", "", "-1"} {
		if _, ok := nat.Read(s); ok {
			t.Errorf("%q", s)
		}
	}
	if nat.Of(0).Len() != 0 || nat.Of(1).Len() != 1 || nat.Pow2(64).Len() != 65 {
		t.Error("Len")
	}
	if nat.Pow2(4097) != nat.Of(0) || nat.Pow2(-1) != nat.Of(0) {
		t.Error("Pow2")
	}
}
