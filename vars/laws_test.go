package vars_test

import (
	"math/rand/v2"
	"slices"
	"testing"

	"census/api"
	"census/vars"
)

// triples calls f with sets of many kinds.
func triples(f func(a, b, c api.Set)) {
	l := samples()
	r := rand.New(rand.NewPCG(5, 6))
	for range 20000 {
		f(l[r.IntN(len(l))], l[r.IntN(len(l))], l[r.IntN(len(l))])
	}
	few := inOrder([]int{1, 64, 65, 128})
	for _, a := range few {
		for _, b := range few {
			for _, c := range few {
				f(a, b, c)
			}
		}
	}
}

// inOrder returns all sets of the given variables, which ascend, in the order of models: that of numbers whose highest
// binary digit is the first variable.
func inOrder(l []int) []api.Set {
	sets := make([]api.Set, 1<<len(l))
	for n := range sets {
		sets[n] = collect(func(v int) bool {
			i := slices.Index(l, v)
			return i >= 0 && n>>(len(l)-1-i)&1 == 1
		})
	}
	return sets
}

func TestLawsOfSets(t *testing.T) { // P3.6
	triples(func(a, b, c api.Set) {
		switch {
		case vars.Union(a, b) != vars.Union(b, a), vars.Cut(a, b) != vars.Cut(b, a):
			t.Fatal("commutative", a, b)
		case vars.Cut(a, vars.Union(b, c)) != vars.Union(vars.Cut(a, b), vars.Cut(a, c)):
			t.Fatal("distributive", a, b, c)
		case vars.Minus(a, b) != vars.Cut(a, vars.Minus(vars.All(128), b)):
			t.Fatal("complement", a, b)
		case vars.Len(a)+vars.Len(b) != vars.Len(vars.Union(a, b))+vars.Len(vars.Cut(a, b)):
			t.Fatal("lengths", a, b)
		}
	})
}

func TestStrictOrder(t *testing.T) { // P3.7
	triples(func(a, b, c api.Set) {
		switch {
		case vars.Less(a, a):
			t.Fatal("before itself", a)
		case a != b && vars.Less(a, b) == vars.Less(b, a):
			t.Fatal("not total", a, b)
		case vars.Less(a, b) && vars.Less(b, c) && !vars.Less(a, c):
			t.Fatal("not transitive", a, b, c)
		}
		part, whole := vars.Cut(a, b), vars.Union(b, c)
		if part != whole && (!vars.Less(part, whole) || vars.Less(whole, part)) {
			t.Fatal("a subset", part, whole)
		}
	})
}

func TestOrderOfAll(t *testing.T) { // P3.5, P3.7
	l := inOrder([]int{1, 2, 63, 64, 65, 66, 127, 128})
	for i, a := range l {
		for j, b := range l {
			if vars.Less(a, b) != (i < j) {
				t.Fatal(vars.List(a), vars.List(b))
			}
		}
	}
}

func TestLists(t *testing.T) { // P3.8
	for _, s := range samples() {
		if got := vars.Of(vars.List(s)...); got != s {
			t.Error("Of of List", s, got)
		}
	}
	r := rand.New(rand.NewPCG(7, 8))
	all := numbers()
	for range 2000 {
		l := make([]int, r.IntN(40))
		for i := range l {
			l[i] = all[r.IntN(len(all))]
		}
		want := slices.DeleteFunc(slices.Clone(l), func(v int) bool { return v < 1 || v > 128 })
		slices.Sort(want)
		if got := vars.List(vars.Of(l...)); !slices.Equal(got, slices.Compact(want)) {
			t.Error("List of Of", l, got)
		}
	}
}
