package circ_test

import (
	"math/rand/v2"
	"slices"
	"testing"

	"census/api"
	"census/circ"
)

// folds returns what Fold returns for a valid circuit.
func folds(t *testing.T, c api.Circuit) api.Circuit {
	t.Helper()
	f, e := circ.Fold(c)
	if e != api.OK {
		t.Fatal(c, e)
	}
	return f
}

// circuits calls f with circuits of all sorts, and with some of the assignments of their variables.
func circuits(f func(c api.Circuit, as []api.Set)) {
	small(func(c api.Circuit) { f(c, assignments(c.N)) })
	oneGate(func(c api.Circuit) { f(c, assignments(c.N)) })
	r := rand.New(rand.NewPCG(13, 14))
	for _, c := range big() {
		f(c, someAssignments(r, c.N))
	}
}

func TestEquivalent(t *testing.T) { // P7.6
	circuits(func(c api.Circuit, as []api.Set) {
		f := folds(t, c)
		if fault(f) != api.OK || circ.Check(f) != api.OK || f.N != c.N {
			t.Fatal("not valid", c, f)
		}
		if modelsAmong(c, as) != modelsAmong(f, as) {
			t.Error("other models", c, f)
		}
		for _, a := range as[:min(len(as), 8)] {
			if circ.Eval(c, a) != circ.Eval(f, a) {
				t.Error("other values", c, f, a)
			}
		}
		if len(f.L) > len(c.L) || circ.Size(f) > circ.Size(c) {
			t.Error("more gates or inputs", c, f)
		}
	})
}

// constantsAllowed reports whether the constants among the gates are only where P7.7 allows them.
func constantsAllowed(c api.Circuit) bool {
	for _, g := range c.L {
		for k, i := range g.In {
			kind := c.L[i].Kind
			switch {
			case kind != api.GateFalse && kind != api.GateTrue:
			case g.Kind == api.GateIf && k > 0:
			case g.Kind == api.GateXor && kind == api.GateTrue && k == len(g.In)-1:
			default:
				return false
			}
		}
	}
	return true
}

func TestSimplest(t *testing.T) { // P7.7
	circuits(func(c api.Circuit, _ []api.Set) {
		f := folds(t, c)
		if !circ.Same(folds(t, f), f) {
			t.Error("folded again", c, f, folds(t, f))
		}
		for i, g := range f.L {
			if slices.ContainsFunc(f.L[:i], func(h api.Gate) bool { return sameGate(g, h) }) {
				t.Error("equal gates", c, f, i)
			}
		}
		if len(reached(f.L, len(f.L)-1)) != len(f.L) {
			t.Error("not needed", c, f)
		}
		if !constantsAllowed(f) {
			t.Error("constants", c, f)
		}
	})
}

// TestFoldIsNew changes arguments and results: nothing else changes (R1, R5).
func TestFoldIsNew(t *testing.T) {
	both := make([]int, 2, 9)
	both[1] = 1
	c := circuit(3, x(1), x(-2), and(both...), or(both...), xor(both...), iff(both...), yes, cond(2, 3, 6), not(4), api.Gate{Kind: api.GateFalse, In: both[:0]},
		cond(7, 9, 8), and(2, 3, 5, 7, 8, 10))
	c.L[2].In, c.L[3].In, c.L[4].In, c.L[5].In = both, both, both, both
	want := folded(c)
	if len(want.L) != len(c.L) {
		t.Fatal("the test is wrong", want)
	}
	for range 3 {
		f := folds(t, c)
		if !same(f, want) {
			t.Fatal(f, want)
		}
		for i := range f.L {
			in, before := f.L[i].In, copied(f)
			_ = append(in, 7, 7, 7, 7, 7, 7, 7, 7)
			for k := range in {
				in[k] += 9
			}
			before.L[i].In = slices.Clone(in)
			if !same(f, before) {
				t.Error("two gates share memory", i, f, before)
			}
		}
		for i := range f.L {
			f.L[i] = api.Gate{Kind: 50, Lit: 50}
		}
	}
	f := folds(t, c)
	for i := range c.L {
		for k := range c.L[i].In {
			c.L[i].In[k] = 40
		}
		c.L[i] = api.Gate{}
	}
	if !same(f, want) {
		t.Error("the argument and the result share memory", f)
	}
}

// TestSameResults calls each function several times (R5).
func TestSameResults(t *testing.T) {
	r := rand.New(rand.NewPCG(15, 16))
	for i := range 300 {
		c := randomCircuit(r, 6, 5+i%40)
		f, a := folds(t, c), api.Set{r.Uint64N(64), 0}
		for range 5 {
			if !same(folds(t, copied(c)), f) || circ.Eval(c, a) != circ.Eval(copied(c), a) || circ.Vars(c) != circ.Vars(copied(c)) {
				t.Error(c)
			}
		}
	}
}
