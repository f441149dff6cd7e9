package lit_test

import (
	"math/rand/v2"
	"slices"
	"testing"

	"census/api"
	"census/lit"
	"census/vars"
)

// universe has the variables of the lists in the tests of laws.
var universe = []int{1, 3, 64, 65, 128}

// subsets calls f with all sets of the variables of universe, each also with all other variables.
func subsets(f func(s api.Set)) {
	rest := vars.Minus(vars.All(128), vars.Of(universe...))
	for n := range 1 << len(universe) {
		var s api.Set
		for i, v := range universe {
			if n>>i&1 == 1 {
				s = vars.With(s, v)
			}
		}
		f(s)
		f(vars.Union(s, rest))
	}
}

// samples returns lists of literals of the variables of universe: all of at most two, and some of more.
func samples() [][]int {
	var from []int
	for _, v := range universe {
		from = append(from, v, -v)
	}
	l := [][]int{nil}
	for _, x := range from {
		l = append(l, []int{x})
		for _, y := range from {
			l = append(l, []int{x, y})
		}
	}
	r := rand.New(rand.NewPCG(7, 8))
	for range 400 {
		var x []int
		for range 3 + r.IntN(4) {
			x = append(x, from[r.IntN(len(from))])
		}
		l = append(l, x)
	}
	return l
}

func TestTermsAndClauses(t *testing.T) { // P4.7
	for _, l := range samples() {
		term, ok := lit.Term(l, 128)
		clause, always, e := lit.Clause(l, 128)
		if e != api.OK || always == ok || always != opposite(clause) {
			t.Error(l, ok, always, e)
		}
		alwaysTrue := true
		subsets(func(s api.Set) {
			if ok && lit.All(s, term) != lit.All(s, l) || !ok && lit.All(s, l) {
				t.Error("Term", l, term, s)
			}
			if lit.Any(s, clause) != lit.Any(s, l) {
				t.Error("Clause", l, clause, s)
			}
			alwaysTrue = alwaysTrue && lit.Any(s, clause)
		})
		if alwaysTrue != always {
			t.Error("always true", l, always, alwaysTrue)
		}
	}
}

func TestResolution(t *testing.T) { // P4.8
	l := samples()
	for i, c := range l {
		for k := i % 7; k < len(l); k += 7 {
			for _, v := range universe {
				r, ok := lit.Resolve(c, l[k], v)
				if !ok {
					continue
				}
				subsets(func(s api.Set) {
					if lit.Any(s, c) && lit.Any(s, l[k]) && !lit.Any(s, r) {
						t.Error(c, l[k], v, r, s)
					}
				})
			}
		}
	}
}

func TestSubsumption(t *testing.T) { // P4.9
	l := samples()
	for _, c := range l {
		for _, d := range l {
			if !lit.Subsumes(c, d) {
				continue
			}
			subsets(func(s api.Set) {
				if lit.Any(s, c) && !lit.Any(s, d) {
					t.Error(c, d, s)
				}
			})
		}
	}
}

// TestResultsAreNew changes a result, in its length and beyond: neither the arguments nor a later result change.
func TestResultsAreNew(t *testing.T) { // R1, R5
	spoil := func(l []int) {
		l = l[:cap(l)]
		for i := range l {
			l[i] = 99
		}
	}
	for _, l := range samples() {
		before := slices.Clone(l)
		term, ok := lit.Term(l, 128)
		clause, always, _ := lit.Clause(l, 128)
		c, d := append([]int{7}, l...), append([]int{-7}, l...)
		r, _ := lit.Resolve(c, d, 7)
		want := [][]int{slices.Clone(term), slices.Clone(clause), slices.Clone(r)}
		spoil(term)
		spoil(clause)
		spoil(r)
		unchanged(t, l, before)
		unchanged(t, c, append([]int{7}, before...))
		unchanged(t, d, append([]int{-7}, before...))
		term2, ok2 := lit.Term(l, 128)
		clause2, always2, _ := lit.Clause(l, 128)
		r2, _ := lit.Resolve(c, d, 7)
		if ok2 != ok || always2 != always || !slices.Equal(term2, want[0]) || !slices.Equal(clause2, want[1]) || !slices.Equal(r2, want[2]) {
			t.Error(l, term2, clause2, r2)
		}
	}
}
