package lit_test

import (
	"math"
	"math/rand/v2"
	"slices"
	"testing"

	"census/api"
	"census/lit"
	"census/vars"
)

// literals returns the literals of n variables in the order of literals.
func literals(n int) []int {
	var l []int
	for v := 1; v <= n; v++ {
		l = append(l, -v, v)
	}
	return l
}

// ordered returns the literals for which f returns true, in order.
func ordered(f func(l int) bool) []int {
	return slices.DeleteFunc(literals(128), func(l int) bool { return !f(l) })
}

// among reports whether all elements of l are literals of n variables.
func among(l []int, n int) bool {
	n = min(max(n, 0), 128)
	return !slices.ContainsFunc(l, func(x int) bool { return x == 0 || x < -n || x > n })
}

// opposite reports whether l has opposite literals.
func opposite(l []int) bool {
	for _, x := range l {
		if x != math.MinInt && slices.Contains(l, -x) {
			return true
		}
	}
	return false
}

// holds reports whether l is a literal that is true in s.
func holds(s api.Set, l int) bool {
	v := max(l, -l)
	return among([]int{l}, 128) && (s[(v-1)/64]>>((v-1)%64)&1 == 1) == (l > 0)
}

// strange returns numbers that are no literals: those near by, and some that a narrower type, or another sign, would
// turn into a literal.
func strange() []int {
	l := []int{0, 129, -129, 130, -130, 1000, -1000, math.MaxInt, math.MinInt, math.MinInt + 1, math.MaxInt - 1}
	for _, k := range []int{8, 16, 31, 32, 62, 63} {
		for _, d := range []int{0, 1, 5, 64, 128} {
			l = append(l, 1<<k+d, -1<<k-d, -1<<k+d)
		}
	}
	return slices.DeleteFunc(l, func(x int) bool { return x != 0 && x >= -128 && x <= 128 })
}

// counts returns numbers of variables, some of which are not valid.
func counts() []int {
	return []int{math.MinInt, -128, -1, 0, 1, 2, 3, 5, 63, 64, 65, 127, 128, 129, 1000, 1 << 32, 1<<32 + 1, math.MaxInt}
}

// lists calls f with many lists: of a few literals, so that they repeat and are opposite, of many, and with numbers that
// are no literals.
func lists(f func(l []int)) {
	f(nil)
	f([]int{})
	for _, x := range append(literals(128), strange()...) {
		f([]int{x})
		f([]int{x, x})
		f([]int{x, -x})
		f([]int{-x, 2, x})
		f([]int{1, x, -3})
	}
	r := rand.New(rand.NewPCG(1, 2))
	for i := range 6000 {
		from := literals([]int{3, 6, 40, 128}[i%4])
		l := make([]int, r.IntN(12))
		for k := range l {
			l[k] = from[r.IntN(len(from))]
		}
		if i%7 == 0 {
			l = slices.Insert(l, r.IntN(len(l)+1), strange()[r.IntN(len(strange()))])
		}
		f(l)
	}
	for range 60 { // terms with a literal of most variables
		var l []int
		for _, k := range r.Perm(128) {
			l = append(l, (k+1)*(1-2*r.IntN(2)))
		}
		f(l)
		f(append(l, l...))
		f(append(l, -l[r.IntN(128)]))
	}
}

// unchanged fails if the argument l of a call is not the same as before.
func unchanged(t *testing.T, l, before []int) {
	t.Helper()
	if !slices.Equal(l, before) {
		t.Error("the argument has changed", before, l)
	}
}

func TestVar(t *testing.T) { // P4.1
	for v := 1; v <= 128; v++ {
		if lit.Var(v) != v || lit.Var(-v) != v {
			t.Error(v, lit.Var(v), lit.Var(-v))
		}
	}
	for _, l := range strange() {
		if v := lit.Var(l); v != 0 {
			t.Error(l, v)
		}
	}
}

func TestValid(t *testing.T) { // P4.1
	for _, n := range counts() {
		for _, l := range literals(128) {
			if got := lit.Valid(l, n); got != (l <= n && -l <= n) {
				t.Error(l, n, got)
			}
		}
		for _, l := range strange() {
			if lit.Valid(l, n) {
				t.Error(l, n)
			}
		}
	}
}

func TestTerm(t *testing.T) { // P4.2
	lists(func(l []int) {
		before := slices.Clone(l)
		for _, n := range counts() {
			got, ok := lit.Term(l, n)
			var want []int
			fits := among(l, n) && !opposite(l)
			if fits {
				want = ordered(func(x int) bool { return slices.Contains(l, x) })
			}
			if ok != fits || !slices.Equal(got, want) {
				t.Error(l, n, got, ok)
			}
		}
		unchanged(t, l, before)
	})
}

func TestClause(t *testing.T) { // P4.3
	lists(func(l []int) {
		before := slices.Clone(l)
		for _, n := range counts() {
			got, always, e := lit.Clause(l, n)
			var want []int
			wrong := api.ErrArg
			if among(l, n) {
				want = ordered(func(x int) bool { return slices.Contains(l, x) })
				wrong = api.OK
			}
			if e != wrong || always != (e == api.OK && opposite(l)) || !slices.Equal(got, want) {
				t.Error(l, n, got, always, e)
			}
		}
		unchanged(t, l, before)
	})
}

func TestLongLists(t *testing.T) { // P1, P4.2, P4.3, P4.5
	var l []int
	for i := range 200000 {
		l = append(l, 128-i%128)
	}
	want := ordered(func(x int) bool { return x > 0 })
	if got, ok := lit.Term(l, 128); !ok || !slices.Equal(got, want) {
		t.Error("Term", got, ok)
	}
	if got, ok := lit.Term(append(l, -7), 128); ok || len(got) != 0 {
		t.Error("Term of opposite literals", got, ok)
	}
	if got, always, e := lit.Clause(append(l, -7), 128); !always || e != api.OK || !slices.Equal(got, slices.Insert(want, 6, -7)) {
		t.Error("Clause", got, always, e)
	}
	if got, always, e := lit.Clause(append(l, 0), 128); always || e != api.ErrArg || len(got) != 0 {
		t.Error("Clause with 0", got, always, e)
	}
	if got, ok := lit.Resolve(l, append(l, -7), 7); !ok || !slices.Equal(got, ordered(func(x int) bool { return x > 0 })) {
		t.Error("Resolve", got, ok)
	}
}

func TestHolds(t *testing.T) { // P4.4
	for _, s := range sets() {
		for _, l := range append(literals(128), strange()...) {
			if got := lit.Holds(s, l); got != holds(s, l) {
				t.Error(s, l, got)
			}
		}
	}
}

func TestAnyAndAll(t *testing.T) { // P4.4
	few := sets()
	i := 0
	lists(func(l []int) {
		for range 8 {
			i++
			s := few[i%len(few)]
			count := 0
			for _, x := range l {
				if holds(s, x) {
					count++
				}
			}
			if lit.Any(s, l) != (count > 0) || lit.All(s, l) != (count == len(l)) {
				t.Error(s, l, lit.Any(s, l), lit.All(s, l))
			}
		}
	})
}

// sets returns sets of many kinds.
func sets() []api.Set {
	l := []api.Set{{}, {math.MaxUint64, math.MaxUint64}, {math.MaxUint64, 0}, {0, math.MaxUint64}}
	for _, v := range []int{1, 2, 3, 63, 64, 65, 66, 127, 128} {
		l = append(l, vars.Of(v), vars.Without(vars.All(128), v), vars.All(v))
	}
	r := rand.New(rand.NewPCG(3, 4))
	for range 30 {
		l = append(l, api.Set{r.Uint64(), r.Uint64()})
	}
	return l
}

// TestExamples has the examples of the chapter.
func TestExamples(t *testing.T) {
	if lit.Var(-5) != 5 || lit.Var(0) != 0 || lit.Var(129) != 0 || lit.Var(-1<<63) != 0 {
		t.Error("Var")
	}
	if !lit.Valid(-5, 5) || lit.Valid(-5, 4) || !lit.Valid(128, 1000) {
		t.Error("Valid")
	}
	if l, ok := lit.Term([]int{3, -1, 3}, 3); !ok || !slices.Equal(l, []int{-1, 3}) {
		t.Error("Term", l, ok)
	}
	for _, x := range [][]int{{3, -3}, {0}} {
		if l, ok := lit.Term(x, 3); ok || len(l) != 0 {
			t.Error("Term", x, l, ok)
		}
	}
	if l, always, e := lit.Clause([]int{3, -1, 3, -3}, 3); !always || e != api.OK || !slices.Equal(l, []int{-1, -3, 3}) {
		t.Error("Clause", l, always, e)
	}
	if l, ok := lit.Resolve([]int{1, 2}, []int{-1, 3, -2}, 1); !ok || !slices.Equal(l, []int{-2, 2, 3}) {
		t.Error("Resolve", l, ok)
	}
	for _, s := range sets() {
		if lit.Any(s, nil) || !lit.All(s, nil) {
			t.Error("no literals", s)
		}
	}
}
