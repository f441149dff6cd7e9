package circ_test

import (
	"math/rand/v2"
	"slices"
	"testing"

	"census/api"
	"census/circ"
)

// checkFold compares Fold with the definition.
func checkFold(t *testing.T, c api.Circuit) {
	t.Helper()
	before := copied(c)
	if got, e := circ.Fold(c); e != api.OK || !same(got, folded(c)) {
		t.Error(c.N, len(c.L), c.L[:min(40, len(c.L))], got.L[:min(40, len(got.L))], e)
	}
	if !same(c, before) {
		t.Error("the argument has changed", before)
	}
}

func TestFold(t *testing.T) { // P7.4
	small(func(c api.Circuit) { checkFold(t, c) })
	for _, c := range big() {
		checkFold(t, c)
	}
}

func TestFoldOneGate(t *testing.T) { // P7.4
	oneGate(func(c api.Circuit) { checkFold(t, c) })
}

// fold is a circuit with what it is folded to.
type fold struct{ c, want api.Circuit }

// checkFolds compares what Fold returns with what is written in a table.
func checkFolds(t *testing.T, l []fold) {
	t.Helper()
	for _, f := range l {
		if want := folded(f.c); !same(want, f.want) {
			t.Error("the test is wrong", f.c, want, f.want)
		}
		if got, e := circ.Fold(f.c); e != api.OK || !same(got, f.want) {
			t.Error(f.c, got, f.want, e)
		}
	}
}

// of returns the circuit of nine variables that has some gates.
func of(l ...api.Gate) api.Circuit { return circuit(9, l...) }

// TestFoldExamples has the examples of the chapter.
func TestFoldExamples(t *testing.T) { // P7.4
	checkFolds(t, []fold{
		{of(x(1), and(0, 0), not(1), not(2)), of(x(1))},
		{of(yes, x(1), xor(1, 0, 1, 0, 1)), of(x(1))},
		{of(x(1), x(2), yes, xor(0, 2, 1)), of(x(1), x(2), yes, xor(0, 1, 2))},
		{of(x(1), not(0), or(0, 1)), of(x(1), x(-1), or(0, 1))},
		{of(x(1), no, yes, cond(0, 1, 2)), of(x(-1))},
		{of(and()), of(yes)},
	})
}

func TestFoldNot(t *testing.T) { // P7.4
	checkFolds(t, []fold{
		{of(no), of(no)},
		{of(yes), of(yes)},
		{of(x(-9)), of(x(-9))},
		{of(no, not(0)), of(yes)},
		{of(yes, not(0)), of(no)},
		{of(x(3), not(0)), of(x(-3))},
		{of(x(-3), not(0)), of(x(3))},
		{of(x(1), x(2), and(0, 1), not(2)), of(x(1), x(2), and(0, 1), not(2))},
		{of(x(1), x(2), and(0, 1), not(2), not(3)), of(x(1), x(2), and(0, 1))},
		{of(x(1), x(2), xor(0, 1), not(2), not(3), not(4)), of(x(1), x(2), xor(0, 1), not(2))},
		{of(x(1), x(2), x(-1), and(0, 1), not(0), or(4, 3)), of(x(1), x(2), x(-1), and(0, 1), or(2, 3))},
		{of(x(1), not(0), not(1), and(0, 1, 2)), of(x(1), x(-1), and(0, 1))},
		{circuit(0, xor(), not(0), not(1), not(2)), circuit(0, yes)},
	})
}

func TestFoldAndOr(t *testing.T) { // P7.4
	checkFolds(t, []fold{
		{of(and()), of(yes)},
		{of(or()), of(no)},
		{of(yes, and(0)), of(yes)},
		{of(yes, or(0)), of(yes)},
		{of(no, and(0, 0)), of(no)},
		{of(no, or(0, 0)), of(no)},
		{of(yes, and(0, 0)), of(yes)},
		{of(no, yes, and(0, 1)), of(no)},
		{of(no, yes, or(0, 1)), of(yes)},
		{of(x(1), and(0)), of(x(1))},
		{of(x(1), or(0)), of(x(1))},
		{of(x(1), yes, and(1, 0, 1)), of(x(1))},
		{of(x(1), no, or(0, 1)), of(x(1))},
		{of(x(1), x(2), no, and(0, 1, 2)), of(no)},
		{of(x(1), x(2), yes, or(0, 2, 1)), of(yes)},
		{of(x(1), x(2), yes, and(1, 2, 0, 1)), of(x(1), x(2), and(1, 0))},
		{of(x(1), x(2), no, or(1, 2, 0, 1)), of(x(1), x(2), or(1, 0))},
		{of(x(1), x(2), x(3), and(2, 0, 2, 1, 0, 2)), of(x(1), x(2), x(3), and(2, 0, 1))},
		{of(x(1), x(2), x(3), or(1, 1, 0, 2, 0)), of(x(1), x(2), x(3), or(1, 0, 2))},
		{of(x(1), x(-1), and(0, 1)), of(x(1), x(-1), and(0, 1))},
		{of(x(1), x(-1), or(1, 0)), of(x(1), x(-1), or(1, 0))},
		{of(x(1), x(2), and(0, 1), and(2, 0)), of(x(1), x(2), and(0, 1), and(2, 0))},
		{of(x(1), x(2), or(0, 1), or(1, 2)), of(x(1), x(2), or(0, 1), or(1, 2))},
		{of(x(1), x(2), and(0, 1), or(2, 2)), of(x(1), x(2), and(0, 1))},
		{of(x(1), x(2), and(0, 1), and(1, 0), or(2, 3)), of(x(1), x(2), and(0, 1), and(1, 0), or(2, 3))},
	})
}

func TestFoldXor(t *testing.T) { // P7.4
	checkFolds(t, []fold{
		{of(xor()), of(no)},
		{of(no, xor(0)), of(no)},
		{of(yes, xor(0)), of(yes)},
		{of(yes, xor(0, 0)), of(no)},
		{of(yes, xor(0, 0, 0)), of(yes)},
		{of(no, yes, xor(0, 1)), of(yes)},
		{of(x(1), xor(0)), of(x(1))},
		{of(x(1), xor(0, 0)), of(no)},
		{of(x(1), no, xor(1, 0, 1)), of(x(1))},
		{of(x(1), yes, xor(0, 1)), of(x(-1))},
		{of(x(-1), yes, xor(1, 0)), of(x(1))},
		{of(x(1), yes, xor(0, 1, 1)), of(x(1))},
		{of(x(1), yes, xor(0, 1, 0)), of(yes)},
		{of(x(1), yes, xor(0, 1, 0, 1)), of(no)},
		{of(x(1), x(2), xor(1, 0)), of(x(1), x(2), xor(1, 0))},
		{of(x(1), x(2), xor(1, 0, 1)), of(x(1))},
		{of(x(1), x(2), xor(1, 0, 1, 1)), of(x(1), x(2), xor(1, 0))},
		{of(x(1), x(2), x(3), xor(2, 0, 2, 1, 2, 0, 0)), of(x(1), x(2), x(3), xor(2, 0, 1))},
		{of(x(1), x(2), x(3), xor(2, 0, 2, 1, 0)), of(x(2))},
		{of(yes, x(1), x(2), xor(0, 2, 1)), of(yes, x(1), x(2), xor(2, 1, 0))},
		{of(yes, no, x(1), x(2), xor(0, 1, 2, 0, 3)), of(x(1), x(2), xor(0, 1))},
		{of(x(1), yes, x(2), xor(1, 0, 1, 2, 1)), of(x(1), yes, x(2), xor(0, 2, 1))},
		{of(x(1), x(-1), xor(0, 1)), of(x(1), x(-1), xor(0, 1))},
		{of(x(1), x(2), and(0, 1), yes, xor(3, 2)), of(x(1), x(2), and(0, 1), not(2))},
		{of(x(1), x(2), and(0, 1), not(2), yes, xor(3, 4)), of(x(1), x(2), and(0, 1))},
		{of(x(1), x(2), xor(0, 1), xor(2, 1)), of(x(1), x(2), xor(0, 1), xor(2, 1))},
		{of(x(1), x(-1), yes, xor(0, 2), xor(1, 3)), of(no)},
	})
}

func TestFoldIff(t *testing.T) { // P7.4
	checkFolds(t, []fold{
		{of(no, iff(0, 0)), of(yes)},
		{of(yes, iff(0, 0)), of(yes)},
		{of(no, yes, iff(0, 1)), of(no)},
		{of(no, yes, iff(1, 0)), of(no)},
		{of(x(1), iff(0, 0)), of(yes)},
		{of(x(1), yes, iff(0, 1)), of(x(1))},
		{of(x(1), yes, iff(1, 0)), of(x(1))},
		{of(x(1), no, iff(0, 1)), of(x(-1))},
		{of(x(-1), no, iff(1, 0)), of(x(1))},
		{of(x(1), x(2), iff(0, 1)), of(x(1), x(2), iff(0, 1))},
		{of(x(1), x(2), iff(1, 0)), of(x(1), x(2), iff(1, 0))},
		{of(x(1), x(-1), iff(0, 1)), of(x(1), x(-1), iff(0, 1))},
		{of(x(1), x(2), or(0, 1), no, iff(3, 2)), of(x(1), x(2), or(0, 1), not(2))},
		{of(x(1), x(2), or(0, 1), not(2), no, iff(3, 4)), of(x(1), x(2), or(0, 1))},
		{of(x(1), x(2), iff(0, 1), iff(1, 0), iff(2, 3)), of(x(1), x(2), iff(0, 1), iff(1, 0), iff(2, 3))},
	})
}

func TestFoldIf(t *testing.T) { // P7.4
	two := []api.Gate{x(1), x(2), yes, no}
	with := func(g api.Gate) api.Circuit { return of(append(slices.Clone(two), g)...) }
	checkFolds(t, []fold{
		{with(cond(2, 0, 1)), of(x(1))},
		{with(cond(3, 0, 1)), of(x(2))},
		{with(cond(2, 3, 2)), of(no)},
		{with(cond(3, 3, 2)), of(yes)},
		{with(cond(2, 2, 3)), of(yes)},
		{with(cond(0, 1, 1)), of(x(2))},
		{with(cond(0, 0, 0)), of(x(1))},
		{with(cond(0, 2, 2)), of(yes)},
		{with(cond(0, 3, 3)), of(no)},
		{with(cond(1, 2, 3)), of(x(2))},
		{with(cond(1, 3, 2)), of(x(-2))},
		{of(x(-1), no, yes, cond(0, 1, 2)), of(x(1))},
		{with(cond(0, 2, 1)), of(x(1), x(2), yes, cond(0, 2, 1))},
		{with(cond(0, 1, 3)), of(x(1), x(2), no, cond(0, 1, 2))},
		{with(cond(0, 3, 1)), of(x(1), x(2), no, cond(0, 2, 1))},
		{with(cond(0, 0, 1)), of(x(1), x(2), cond(0, 0, 1))},
		{with(cond(0, 1, 0)), of(x(1), x(2), cond(0, 1, 0))},
		{with(cond(0, 2, 0)), of(x(1), yes, cond(0, 1, 0))},
		{of(x(1), x(-1), x(2), cond(2, 0, 1)), of(x(1), x(-1), x(2), cond(2, 0, 1))},
		{of(x(1), x(2), and(0, 1), no, yes, cond(2, 3, 4)), of(x(1), x(2), and(0, 1), not(2))},
		{of(x(1), x(2), and(0, 1), not(2), no, yes, cond(3, 4, 5)), of(x(1), x(2), and(0, 1))},
	})
}

// TestFoldEqual has gates that are equal only when their inputs have been folded, and gates that are not needed.
func TestFoldEqual(t *testing.T) { // P7.4
	checkFolds(t, []fold{
		{of(x(1), x(1), and(0, 1)), of(x(1))},
		{of(x(2), x(1), x(2), x(1), xor(0, 1), xor(2, 3), iff(4, 5)), of(yes)},
		{of(x(1), x(2), and(0, 0, 1), and(0, 1), yes, and(4, 0, 1), xor(2, 3, 5)), of(x(1), x(2), and(0, 1))},
		{of(x(1), x(2), and(0, 1), or(0, 1), iff(0, 1), xor(0, 1), or(2, 3, 4, 5)), of(x(1), x(2), and(0, 1), or(0, 1), iff(0, 1), xor(0, 1), or(2, 3, 4, 5))},
		{of(x(9), x(1), no, x(8), yes, x(2), or(1, 5), x(7)), of(x(7))},
		{of(x(9), x(1), no, x(8), yes, x(2), x(7), or(1, 5)), of(x(1), x(2), or(0, 1))},
		{of(x(1), x(2), x(3), and(2, 0), x(4), or(3, 1), xor(4, 2), and(5, 2)), of(x(1), x(2), x(3), and(2, 0), or(3, 1), and(4, 2))},
		{of(x(1), x(2), and(0, 1), not(2), or(0, 1), not(3)), of(x(1), x(2), and(0, 1))},
		{of(x(1), x(2), xor(0, 1), or(2), x(1)), of(x(1))},
		{of(yes, x(1), and(1, 0), no, xor(2, 3), iff(4, 1), not(5)), of(no)},
	})
	for _, n := range []int{0, 1, 64, 127, 128} {
		if got, e := circ.Fold(circuit(n, or())); e != api.OK || !same(got, circuit(n, no)) {
			t.Error("the number of variables", n, got, e)
		}
	}
}

// TestFoldKeys has gates whose numbers are the same digits in another place.
func TestFoldKeys(t *testing.T) { // P7.4
	c := circuit(128, x(1), x(11), x(-1), x(-11), x(111), x(112), x(-112), x(12), x(121), x(2), x(3), x(4), x(5))
	for _, in := range [][]int{{1, 11}, {11, 1}, {1, 1, 0}, {1, 12}, {11, 2}, {1, 1, 2}, {2, 1, 1}, {1, 0, 1}, {10, 1}, {0, 11}, {1, 2}, {0, 1, 2}, {1, 0, 2}} {
		c.L = append(c.L, and(in...), or(in...), xor(in...), api.Gate{Kind: api.GateIff + len(in) - 2, In: in})
	}
	var all []int
	for i := range c.L {
		all = append(all, i, i, i)
	}
	c.L = append(c.L, xor(all...))
	checkFold(t, c)
}

// TestFoldMany has each number of gates and of inputs of a gate up to a few more than fits a small store.
func TestFoldMany(t *testing.T) { // P1, P7.4
	r := rand.New(rand.NewPCG(11, 12))
	for n := 1; n < 300; n++ {
		c := randomCircuit(r, 128, n)
		c.L = append(c.L, api.Gate{Kind: api.GateAnd + n%3, In: r.Perm(n)})
		checkFold(t, c)
	}
}
