package lit_test

import (
	"math"
	"math/rand/v2"
	"slices"
	"testing"

	"census/lit"
)

// resolvent returns what Resolve returns, by the definition.
func resolvent(c, d []int, v int) ([]int, bool) {
	if v < 1 || v > 128 || !among(c, 128) || !among(d, 128) || !slices.Contains(c, v) || !slices.Contains(d, -v) {
		return nil, false
	}
	return ordered(func(x int) bool {
		return x != v && slices.Contains(c, x) || x != -v && slices.Contains(d, x)
	}), true
}

// checkResolve compares Resolve with the definition.
func checkResolve(t *testing.T, c, d []int, v int) {
	t.Helper()
	c1, d1 := slices.Clone(c), slices.Clone(d)
	got, ok := lit.Resolve(c, d, v)
	want, is := resolvent(c, d, v)
	if ok != is || !slices.Equal(got, want) {
		t.Error(c, d, v, got, ok)
	}
	unchanged(t, c, c1)
	unchanged(t, d, d1)
}

// pairs calls f with pairs of lists, many of which have opposite literals of the variable v.
func pairs(f func(c, d []int, v int)) {
	r := rand.New(rand.NewPCG(5, 6))
	border := []int{1, 2, 3, 63, 64, 65, 127, 128}
	list := func() []int {
		l := make([]int, r.IntN(7))
		for i := range l {
			l[i] = border[r.IntN(len(border))] * (1 - 2*r.IntN(2))
		}
		return l
	}
	put := func(l []int, x int) []int { return slices.Insert(l, r.IntN(len(l)+1), x) }
	for i := range 20000 {
		c, d, v := list(), list(), border[r.IntN(len(border))]
		if i%3 > 0 {
			c, d = put(c, v), put(d, -v)
		}
		switch i % 20 {
		case 0:
			c = put(c, strange()[r.IntN(len(strange()))])
		case 1:
			d = put(d, strange()[r.IntN(len(strange()))])
		}
		f(c, d, v)
	}
}

func TestResolve(t *testing.T) { // P4.5
	pairs(func(c, d []int, v int) {
		checkResolve(t, c, d, v)
		checkResolve(t, d, c, v)
		checkResolve(t, c, d, -v)
		checkResolve(t, d, c, -v)
		checkResolve(t, c, c, v)
	})
}

func TestResolveKeepsTheOther(t *testing.T) { // P4.5
	for v := 1; v <= 128; v++ {
		checkResolve(t, []int{v}, []int{-v}, v)
		checkResolve(t, []int{-v, v, v}, []int{-v, -v}, v)
		checkResolve(t, []int{v}, []int{v, -v}, v)
		checkResolve(t, []int{v, -v}, []int{v, -v}, v)
		checkResolve(t, []int{-v}, []int{v}, v)
		checkResolve(t, literals(128), literals(128), v)
	}
}

func TestResolveRefuses(t *testing.T) { // P4.5
	for _, x := range append(strange(), -1, -64, -128) {
		checkResolve(t, []int{x}, []int{-x}, x)
		checkResolve(t, []int{x, 1}, []int{-1, -x}, x)
		checkResolve(t, []int{x, 1}, []int{-1, -x}, -x)
	}
	for _, x := range strange() {
		checkResolve(t, []int{x, 1}, []int{-1}, 1)
		checkResolve(t, []int{1}, []int{-1, x}, 1)
		checkResolve(t, []int{1, 2, x}, []int{3, -1, x}, 1)
	}
	checkResolve(t, nil, nil, 1)
	checkResolve(t, []int{1}, nil, 1)
	checkResolve(t, nil, []int{-1}, 1)
	checkResolve(t, []int{2}, []int{-1}, 1)
	checkResolve(t, []int{1}, []int{1}, 1)
	checkResolve(t, []int{1}, []int{-2}, 1)
}

// subset reports whether each element of c is one of d.
func subset(c, d []int) bool {
	for _, x := range c {
		if !slices.Contains(d, x) {
			return false
		}
	}
	return true
}

func TestSubsumes(t *testing.T) { // P4.6
	check := func(c, d []int) {
		t.Helper()
		c1, d1 := slices.Clone(c), slices.Clone(d)
		if got := lit.Subsumes(c, d); got != subset(c, d) {
			t.Error(c, d, got)
		}
		unchanged(t, c, c1)
		unchanged(t, d, d1)
	}
	pairs(func(c, d []int, v int) {
		check(c, d)
		check(d, c)
		check(append(c, c...), c)
		check(c, append(d, c...))
		check(c, nil)
		check(nil, c)
		check(c, slices.DeleteFunc(slices.Clone(c), func(x int) bool { return x == v }))
	})
	for _, x := range append(literals(128), strange()...) {
		check([]int{x}, []int{5, x})
		check([]int{x, 5}, []int{x})
		check([]int{x}, []int{-x})
		check([]int{x, x, x}, []int{x})
	}
}

// TestSubsumesLong has lists that are longer than any clause, at and beside the length of the longest one, too.
func TestSubsumesLong(t *testing.T) { // P4.6
	for _, n := range []int{126, 127, 128, 129, 130, 256, 257, 1000} {
		var d []int
		for i := range n {
			d = append(d, 7*i-500)
		}
		for _, x := range []int{-500, -499, 0, 7*n - 500, 7*n - 507, math.MaxInt, math.MinInt, -7 * n} {
			if got := lit.Subsumes([]int{d[n/2], x}, d); got != slices.Contains(d, x) {
				t.Error(n, x, got)
			}
		}
		if !lit.Subsumes(d, d) || !lit.Subsumes(d[1:], d) || lit.Subsumes(d, d[1:]) || lit.Subsumes(d, nil) || !lit.Subsumes(nil, d) {
			t.Error(n)
		}
	}
	huge := make([]int, 400000) // too many pairs of elements to compare them all
	for i := range huge {
		huge[i] = 3*i - 600000
	}
	if !lit.Subsumes(huge, huge) || lit.Subsumes(append(slices.Clone(huge), 1), huge) {
		t.Error("huge lists")
	}
}
