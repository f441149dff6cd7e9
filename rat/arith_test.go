package rat_test

import (
	"math/big"
	"testing"

	"census/nat"
	"census/rat"
)

// checkPair compares all operations on two numbers with those of math/big.
func checkPair(t *testing.T, x, y *big.Rat) {
	t.Helper()
	a, b := build(x), build(y)
	if sum := rat.Add(a, b); !same(sum, new(big.Rat).Add(x, y)) {
		t.Error("Add", brief(x), brief(y), sum.Text())
	}
	if product := rat.Mul(a, b); !same(product, new(big.Rat).Mul(x, y)) {
		t.Error("Mul", brief(x), brief(y), product.Text())
	}
	want := new(big.Rat).Sub(x, y)
	if want.Sign() < 0 {
		want = new(big.Rat)
	}
	if rest, ok := rat.Sub(a, b); ok != (x.Cmp(y) >= 0) || !same(rest, want) {
		t.Error("Sub", brief(x), brief(y), rest.Text(), ok)
	}
	want = new(big.Rat)
	if y.Sign() > 0 {
		want.Quo(x, y)
	}
	if q, ok := rat.Div(a, b); ok != (y.Sign() > 0) || !same(q, want) {
		t.Error("Div", brief(x), brief(y), q.Text(), ok)
	}
	if order := rat.Cmp(a, b); order != x.Cmp(y) {
		t.Error("Cmp", brief(x), brief(y), order)
	}
	if !same(a, x) || !same(b, y) {
		t.Error("an argument has changed", brief(x), brief(y))
	}
}

func TestPairs(t *testing.T) { // P2.3, P2.4
	l := samples()
	for _, x := range l {
		for _, y := range l {
			checkPair(t, x, y)
		}
	}
}

func TestSmallPairs(t *testing.T) { // P2.3, P2.4
	for c := int64(1); c <= 12; c++ {
		for d := int64(1); d <= 12; d++ {
			for m := range int64(8) {
				for n := range int64(8) {
					checkPair(t, big.NewRat(m, c), big.NewRat(n, d))
				}
			}
		}
	}
}

// TestNear has numbers that differ by the least that their denominators allow.
func TestNear(t *testing.T) { // P2.3
	for n := range 200 {
		x, y := new(big.Int).Add(power(2, n), big.NewInt(1)), new(big.Int).Add(power(2, n), big.NewInt(2))
		z := new(big.Int).Add(power(2, n), big.NewInt(3))
		checkPair(t, new(big.Rat).SetFrac(x, y), new(big.Rat).SetFrac(y, z))
		checkPair(t, new(big.Rat).SetFrac(y, x), new(big.Rat).SetFrac(z, y))
		checkPair(t, new(big.Rat).SetInt(x), new(big.Rat).SetFrac(new(big.Int).Mul(x, x), y))
	}
}

// TestLong has numbers of many more digits than Read takes.
func TestLong(t *testing.T) { // P2.3, P2.4
	x := new(big.Rat).SetFrac(power(6, 4000), power(35, 3000))
	y := new(big.Rat).SetFrac(power(10, 3000), power(21, 2500))
	z := new(big.Rat).SetFrac(power(7, 3001), power(5, 3001))
	for _, pair := range [][2]*big.Rat{{x, y}, {y, x}, {x, z}, {y, z}, {z, z}, {x, big.NewRat(1, 35)}} {
		checkPair(t, pair[0], pair[1])
	}
}

func TestSeries(t *testing.T) { // P2.3, P2.4
	sum, want, product, left := rat.Rat{}, new(big.Rat), of(1, 1), of(1, 1)
	for n := uint64(1); n <= 400; n++ {
		sum, want = rat.Add(sum, of(1, n)), want.Add(want, big.NewRat(1, int64(n)))
		product = rat.Mul(product, of(n, n+1))
		left, _ = rat.Sub(left, of(1, n*(n+1)))
	}
	if !same(sum, want) {
		t.Error(sum.Text(), brief(want))
	}
	if product.Text() != "1/401" || left.Text() != "1/401" {
		t.Error(product.Text(), left.Text())
	}
	for n := uint64(400); n > 0; n-- {
		sum, _ = rat.Sub(sum, of(1, n))
		product, _ = rat.Div(product, of(n, n+1))
	}
	if !isZero(sum) || product.Text() != "1" {
		t.Error(sum.Text(), product.Text())
	}
}

func TestRefused(t *testing.T) { // P2.3, P2.4
	for _, x := range samples() {
		a := build(x)
		if q, ok := rat.Div(a, of(0, 5)); ok || !isZero(q) {
			t.Error(brief(x), "by 0", q.Text(), ok)
		}
		tiny, _ := rat.New(nat.Of(1), nat.Mul(nat.Pow2(100), a.Den()))
		if d, ok := rat.Sub(a, rat.Add(a, tiny)); ok || !isZero(d) {
			t.Error(brief(x), "less than itself", d.Text(), ok)
		}
		if d, ok := rat.Sub(rat.Add(a, tiny), a); !ok || rat.Cmp(d, tiny) != 0 {
			t.Error(brief(x), "and a little", d.Text(), ok)
		}
	}
}

// TestExamples has the examples of the chapter.
func TestExamples(t *testing.T) {
	show := func(a rat.Rat, ok bool) string {
		if !ok {
			return "false " + a.Text()
		}
		return a.Text()
	}
	half, third, one := of(1, 2), of(1, 3), of(1, 1)
	l := []struct{ got, want string }{
		{show(rat.Of(6, 4)), "3/2"},
		{show(rat.Of(0, 7)), "0"},
		{show(rat.Of(7, 1)), "7"},
		{show(rat.Of(1, 0)), "false 0"},
		{show(rat.New(nat.Of(6), nat.Of(4))), "3/2"},
		{show(rat.Read("3/2")), "3/2"},
		{show(rat.Read("0")), "0"},
		{show(rat.Read("12")), "12"},
		{show(rat.Read("2/4")), "false 0"},
		{show(rat.Read("1/")), "false 0"},
		{rat.Add(of(1, 6), third).Text(), "1/2"},
		{rat.Add(half, third).Text(), "5/6"},
		{show(rat.Sub(half, of(1, 6))), "1/3"},
		{show(rat.Sub(half, half)), "0"},
		{show(rat.Sub(third, half)), "false 0"},
		{rat.Mul(of(4, 9), of(3, 8)).Text(), "1/6"},
		{rat.Mul(of(2, 3), of(3, 4)).Text(), "1/2"},
		{show(rat.Div(of(2, 3), of(4, 1))), "1/6"},
		{show(rat.Div(half, of(1, 4))), "2"},
		{show(rat.Div(one, rat.Rat{})), "false 0"},
	}
	for i, x := range l {
		if x.got != x.want {
			t.Error(i, x.got, x.want)
		}
	}
	if rat.Cmp(third, of(33, 100)) != 1 || rat.Cmp(of(2, 4), half) != 0 {
		t.Error("Cmp")
	}
}
