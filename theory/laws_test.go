package theory_test

import (
	"math/rand/v2"
	"slices"
	"testing"

	"census/api"
	"census/theory"
	"census/vars"
)

// assignments calls f with all assignments of n variables.
func assignments(n int, f func(a api.Set)) {
	for i := range 1 << n {
		f(api.Set{uint64(i), 0})
	}
}

// small returns theories of at most five variables.
func small(count int) []api.Theory {
	r := rand.New(rand.NewPCG(11, 12))
	l := []api.Theory{{}, {N: 2}, {L: [][]int{nil}}, {N: 1, L: [][]int{{1}, {-1}}}, {N: 2, L: [][]int{{1, 2, -1}}}}
	for i := range count {
		l = append(l, randomTheory(r, i%6, 7, 4))
	}
	return l
}

// normal returns the normal form of a valid theory.
func normal(t *testing.T, x api.Theory) api.Theory {
	t.Helper()
	n, e := theory.Normal(x)
	if e != api.OK {
		t.Error("Normal", x, e)
	}
	return n
}

// given returns what is left of a theory, given a term.
func given(t *testing.T, x api.Theory, term []int) api.Theory {
	t.Helper()
	g, e := theory.Given(x, term)
	if e != api.OK {
		t.Error("Given", x, term, e)
	}
	return g
}

// mixed returns a theory with the clauses and literals of x in another order, some of them more often.
func mixed(r *rand.Rand, x api.Theory) api.Theory {
	m := copied(x)
	for _, c := range x.L {
		if r.IntN(2) == 0 {
			m.L = append(m.L, slices.Clone(c))
		}
	}
	r.Shuffle(len(m.L), func(i, k int) { m.L[i], m.L[k] = m.L[k], m.L[i] })
	for i, c := range m.L {
		for range c {
			if r.IntN(2) == 0 {
				c = append(c, c[r.IntN(len(c))])
			}
		}
		r.Shuffle(len(c), func(i, k int) { c[i], c[k] = c[k], c[i] })
		m.L[i] = c
	}
	return m
}

func TestTheSameModels(t *testing.T) { // P5.6
	r := rand.New(rand.NewPCG(13, 14))
	for _, x := range small(1500) {
		n := normal(t, x)
		if !same(normal(t, n), n) {
			t.Error("not its own normal form", x, n)
		}
		if m := mixed(r, x); !same(normal(t, m), n) {
			t.Error("in another order", x, m, n)
		}
		assignments(x.N, func(a api.Set) {
			if theory.Eval(x, a) != theory.Eval(n, a) {
				t.Error(x, n, a)
			}
		})
	}
}

// TestTheSameModelsOfMany does the same with theories of many variables, in some of their assignments.
func TestTheSameModelsOfMany(t *testing.T) { // P5.6
	r := rand.New(rand.NewPCG(15, 16))
	for i := range 400 {
		x := randomTheory(r, []int{64, 65, 128}[i%3], 30, 5)
		n := normal(t, x)
		if !same(normal(t, n), n) || !same(normal(t, mixed(r, x)), n) {
			t.Error(x, n)
		}
		for _, a := range sets(r) {
			a = vars.Cut(a, vars.All(x.N))
			if theory.Eval(x, a) != theory.Eval(n, a) {
				t.Error(x, n, a)
			}
		}
	}
}

func TestConditions(t *testing.T) { // P5.7
	r := rand.New(rand.NewPCG(17, 18))
	for _, x := range small(1500) {
		term := randomTerm(r, x.N, 3)
		g := given(t, x, term)
		for _, y := range term {
			if vars.Has(theory.Vars(g), variable(y)) {
				t.Error("a variable of the term", x, term, g)
			}
		}
		assignments(x.N, func(a api.Set) {
			if slices.ContainsFunc(term, func(y int) bool { return !isTrue(a, y) }) {
				return
			}
			if theory.Eval(x, a) != theory.Eval(g, a) {
				t.Error(x, term, g, a)
			}
		})
	}
}

func TestConditionsInSteps(t *testing.T) { // P5.7
	r := rand.New(rand.NewPCG(19, 20))
	theories := small(800)
	for i := range 800 {
		theories = append(theories, randomTheory(r, []int{64, 65, 128}[i%3], 30, 6))
	}
	for _, x := range theories {
		both := randomTerm(r, x.N, 6)
		first, second := both[:len(both)/2], both[len(both)/2:]
		at1 := given(t, x, both)
		if g := given(t, given(t, x, first), second); !same(g, at1) {
			t.Error(x, first, second, g, at1)
		}
		if g := given(t, given(t, x, both), second); !same(g, at1) {
			t.Error("twice", x, both, second, g, at1)
		}
	}
}

func TestConjunctions(t *testing.T) { // P5.8
	l := small(600)
	r := rand.New(rand.NewPCG(21, 22))
	for _, x := range l {
		y := l[r.IntN(len(l))]
		both, e := theory.Join(x, y)
		if e != api.OK {
			t.Fatal(x, y, e)
		}
		assignments(max(x.N, y.N), func(a api.Set) {
			inX, inY := theory.Eval(x, vars.Cut(a, vars.All(x.N))), theory.Eval(y, vars.Cut(a, vars.All(y.N)))
			if theory.Eval(both, a) != (inX && inY) {
				t.Error(x, y, both, a)
			}
		})
	}
}

// spoil changes all numbers of a theory, also those beyond the ends of its lists.
func spoil(t api.Theory) {
	for i, c := range t.L {
		c = c[:cap(c)]
		for k := range c {
			c[k] = 99
		}
		t.L[i] = nil
	}
	for i := range t.L[:cap(t.L)] {
		t.L[:cap(t.L)][i] = []int{98}
	}
}

// checkNew changes a result of f, which must not change its argument or a later result.
func checkNew(t *testing.T, name string, x api.Theory, f func() (api.Theory, api.Errno)) {
	t.Helper()
	before := copied(x)
	got, e := f()
	want := copied(got)
	for i := range got.L { // one clause alone, so that the others must not change with it
		c := got.L[i][:cap(got.L[i])]
		for k := range c {
			c[k] = 99
		}
		for k := i + 1; k < len(got.L); k++ {
			if !slices.Equal(got.L[k], want.L[k]) {
				t.Error(name, "two clauses share memory", want)
			}
		}
	}
	spoil(got)
	again, e2 := f()
	if e != api.OK || e2 != api.OK || !same(again, want) || !same(x, before) {
		t.Error(name, before, want, again, e, e2)
	}
}

func TestResultsAreNew(t *testing.T) { // R1, R5
	r := rand.New(rand.NewPCG(23, 24))
	for _, x := range small(500) {
		// Clauses that share memory in the argument must not do so in a result.
		whole := slices.Concat(x.L...)
		for i, end := 0, 0; i < len(x.L); i++ {
			end += len(x.L[i])
			x.L[i] = whole[end-len(x.L[i]) : end]
		}
		x.L = append(x.L, x.L...)
		term := randomTerm(r, x.N, 2)
		checkNew(t, "Normal", x, func() (api.Theory, api.Errno) { return theory.Normal(x) })
		checkNew(t, "Given", x, func() (api.Theory, api.Errno) { return theory.Given(x, term) })
		checkNew(t, "Given nothing", x, func() (api.Theory, api.Errno) { return theory.Given(x, nil) })
		checkNew(t, "Join", x, func() (api.Theory, api.Errno) { return theory.Join(x, x) })
		checkNew(t, "Join with none", x, func() (api.Theory, api.Errno) { return theory.Join(api.Theory{}, x) })
	}
}
