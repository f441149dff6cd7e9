package infix_test

import (
	"math/rand/v2"
	"slices"
	"strings"
	"testing"

	"census/api"
	"census/circ"
	"census/infix"
)

// checkPrint compares Print with the definition, for a valid circuit, and returns the error.
func checkPrint(t *testing.T, c api.Circuit) api.Errno {
	t.Helper()
	before := copied(c)
	text, e := infix.Print(c)
	if want, wantE := printed(c); text != want || e != wantE {
		t.Errorf("%d gates: %s, error %d; want %s, error %d", len(c.L), brief(text), e, brief(want), wantE)
	}
	if !same(c, before) {
		t.Error("the argument has changed", before)
	}
	return e
}

// checkTexts compares the texts of the roots of circuits of nine variables with those that are written beside them.
func checkTexts(t *testing.T, l []accepted) {
	t.Helper()
	for _, a := range l {
		c := circuit(9, a.l...)
		if text, e := infix.Print(c); text != a.text || e != api.OK {
			t.Errorf("%v: %q, error %d; want %q", a.l, text, e, a.text)
		}
		checkPrint(t, c)
	}
}

// TestPrintKinds has each kind of gate, with each number of inputs.
func TestPrintKinds(t *testing.T) { // P8.2
	abc := func(l ...api.Gate) []api.Gate { return append([]api.Gate{x(1), x(-2), x(3)}, l...) }
	checkTexts(t, []accepted{
		{"0", []api.Gate{no}},
		{"1", []api.Gate{yes}},
		{"x9", []api.Gate{x(9)}},
		{"!x9", []api.Gate{x(-9)}},
		{"!(x1)", []api.Gate{x(1), not(0)}},
		{"!!x1", []api.Gate{x(-1), not(0)}},
		{"!0", []api.Gate{no, not(0)}},
		{"!1", []api.Gate{yes, not(0)}},
		{"!!(x1)", []api.Gate{x(1), not(0), not(1)}},
		{"!!!x1", []api.Gate{x(-1), not(0), not(1)}},
		{"and()", []api.Gate{and()}},
		{"or()", []api.Gate{or()}},
		{"xor()", []api.Gate{xor()}},
		{"and(x1)", []api.Gate{x(1), and(0)}},
		{"or(!x1)", []api.Gate{x(-1), or(0)}},
		{"xor(0)", []api.Gate{no, xor(0)}},
		{"x1 & !x2", abc(and(0, 1))},
		{"!x2 | x1", abc(or(1, 0))},
		{"x1 ^ x1", abc(xor(0, 0))},
		{"x1 & !x2 & x3 & x1", abc(and(0, 1, 2, 0))},
		{"x1 | !x2 | x3", abc(or(0, 1, 2))},
		{"x1 ^ !x2 ^ x3", abc(xor(0, 1, 2))},
		{"x1 <-> !x2", abc(iff(0, 1))},
		{"if(x1, !x2, x3)", abc(cond(0, 1, 2))},
		{"if(x3, x3, x1)", abc(cond(2, 2, 0))},
		{"x1", abc(and(0, 1), x(1))}, // what the root does not need is left out
	})
}

// TestPrintParentheses has gates of each level as inputs of gates of each kind.
func TestPrintParentheses(t *testing.T) { // P8.2
	inputs := []api.Gate{x(1), x(-2), no, yes, not(0), and(0, 1), xor(0, 1), or(0, 1), iff(0, 1), cond(0, 1, 0), and(), and(8), or(0), xor(5)}
	const (
		n, a, e, o, i = 4, 5, 6, 7, 8 // GateNot, GateAnd, GateXor, GateOr and GateIff
		f, empty, one = 9, 10, 11     // GateIf, and GateAnd with no input and with one
	)
	with := func(g api.Gate) []api.Gate { return append(slices.Clone(inputs), g) }
	checkTexts(t, []accepted{
		{"!(x1 & !x2)", with(not(a))}, {"!(x1 ^ !x2)", with(not(e))}, {"!(x1 | !x2)", with(not(o))}, {"!(x1 <-> !x2)", with(not(i))},
		{"!if(x1, !x2, x1)", with(not(f))}, {"!and()", with(not(empty))}, {"!and(x1 <-> !x2)", with(not(one))}, {"!!(x1)", with(not(n))},
		{"!(x1) & (x1 & !x2)", with(and(n, a))}, {"(x1 ^ !x2) & (x1 | !x2)", with(and(e, o))}, {"(x1 <-> !x2) & if(x1, !x2, x1)", with(and(i, f))}, {"and() & and(x1 <-> !x2)", with(and(empty, one))},
		{"!(x1) ^ x1 & !x2", with(xor(n, a))}, {"(x1 ^ !x2) ^ (x1 | !x2)", with(xor(e, o))}, {"(x1 <-> !x2) ^ if(x1, !x2, x1)", with(xor(i, f))}, {"and() ^ and(x1 <-> !x2)", with(xor(empty, one))},
		{"!(x1) | x1 & !x2", with(or(n, a))}, {"x1 ^ !x2 | (x1 | !x2)", with(or(e, o))}, {"(x1 <-> !x2) | if(x1, !x2, x1)", with(or(i, f))}, {"and() | and(x1 <-> !x2)", with(or(empty, one))},
		{"!(x1) <-> x1 & !x2", with(iff(n, a))}, {"x1 ^ !x2 <-> x1 | !x2", with(iff(e, o))}, {"x1 <-> !x2 <-> if(x1, !x2, x1)", with(iff(i, f))}, {"x1 | !x2 <-> (x1 <-> !x2)", with(iff(o, i))},
		{"x1 <-> !x2 <-> (x1 <-> !x2)", with(iff(i, i))}, {"and() <-> and(x1 <-> !x2)", with(iff(empty, one))}, {"if(x1 & !x2, x1 | !x2, x1 <-> !x2)", with(cond(a, o, i))},
		{"and(x1 & !x2)", with(and(a))}, {"or(x1 <-> !x2)", with(or(i))}, {"xor(x1 | !x2)", with(xor(o))}, {"xor(!(x1))", with(xor(n))}, {"if(!(x1), !x2, x1 ^ !x2)", with(cond(n, 1, e))},
		{"!x2 & (x1 & !x2) & x1", with(and(1, a, 0))}, {"or(x1) & xor(x1 & !x2)", with(and(12, 13))},
	})
	twoGates(func(c api.Circuit) { checkPrint(t, c) })
}

func TestPrintRandom(t *testing.T) { // P8.2
	small(func(c api.Circuit) { checkPrint(t, c) })
	r := rand.New(rand.NewPCG(7, 8))
	counts := map[api.Errno]int{}
	for k := range 200 {
		counts[checkPrint(t, randomCircuit(r, []int{0, 9, 10, 64, 99, 100, 128}[k%7], 1+k))]++
		counts[checkPrint(t, dense(r, []int{1, 9, 10, 99, 100, 128}[k%6], 10+k))]++
	}
	if counts[api.OK] < 50 || counts[api.ErrLong] < 20 {
		t.Error("the test is wrong", counts)
	}
}

// TestPrintVariables has each literal.
func TestPrintVariables(t *testing.T) { // P8.2
	for v := 1; v <= 128; v++ {
		checkPrint(t, circuit(128, x(v)))
		checkPrint(t, circuit(v, x(-v)))
		checkPrint(t, circuit(v, x(v), not(0)))
	}
}

// TestPrintLimit has formulas at the limit of their length and above it.
func TestPrintLimit(t *testing.T) { // P8.2
	limit := 1 << 20
	for size := limit - 4; size <= limit+6; size++ {
		text, e := infix.Print(sized(size))
		if size <= limit && (len(text) != size || e != api.OK) || size > limit && (text != "" || e != api.ErrLong) {
			t.Error(size, len(text), e)
		}
		for _, last := range [][]api.Gate{nil, {not(3)}, {and(3)}, {cond(0, 3, 1)}, {and(3, 3)}, {iff(3, 0)}} {
			checkPrint(t, circuit(9, append(sized(size-5).L, last...)...))
		}
	}
}

// TestPrintHuge has formulas that are much longer than the limit, and one that is short beside a gate whose formula is.
func TestPrintHuge(t *testing.T) { // P1, P8.2
	for _, f := range []func(i int) api.Gate{
		func(i int) api.Gate { return xor(i, i-1) },
		func(i int) api.Gate { return and(i, i) },
		func(i int) api.Gate { return cond(i, i-1, i) },
		func(i int) api.Gate { return iff(i, i) },
		func(i int) api.Gate { return or(slices.Repeat([]int{i}, 15)...) },
	} {
		c := chain(4096, f)
		checkHuge(t, c)
		c.L[4095] = or(0, 4)
		checkPrint(t, c)
		c.L[4095] = or(0, 4094)
		checkHuge(t, c)
	}
	c := chain(500, func(i int) api.Gate { return or(i, i, i) })
	c.L = append(c.L, and(slices.Repeat([]int{499}, 60000)...))
	checkHuge(t, c)
}

// checkHuge tells that the formula of c is too long.
func checkHuge(t *testing.T, c api.Circuit) {
	t.Helper()
	if circ.Check(c) != api.OK {
		t.Fatal("the test is wrong")
	}
	if text, e := infix.Print(c); text != "" || e != api.ErrLong {
		t.Error(len(text), e)
	}
}

// TestPrintDeep has formulas with as many levels as there can be.
func TestPrintDeep(t *testing.T) { // P1, P8.2
	for _, l := range []struct {
		f             func(i int) api.Gate
		begin, middle string
		again         string
	}{
		{func(i int) api.Gate { return not(i) }, "!", "!x2", ""},
		{func(i int) api.Gate { return and(i) }, "and(", "!x2", ")"},
		{func(i int) api.Gate { return or(0, i) }, "x1 | (", "x1 | !x2", ")"},
		{func(i int) api.Gate { return iff(i, 0) }, "", "!x2", " <-> x1"},
		{func(i int) api.Gate { return cond(0, 1, i) }, "if(x1, !x2, ", "!x2", ")"},
	} {
		count := 4094
		if strings.HasPrefix(l.middle, "x1 |") {
			count--
		}
		want := strings.Repeat(l.begin, count) + l.middle + strings.Repeat(l.again, count)
		if text, e := infix.Print(chain(4096, l.f)); text != want || e != api.OK {
			t.Error(brief(text), e, brief(want))
		}
	}
}

func TestPrintInvalid(t *testing.T) { // P8.2
	long := slices.Repeat([]int{0}, 65537)
	l := []struct {
		c api.Circuit
		e api.Errno
	}{
		{api.Circuit{}, api.ErrArg}, {circuit(9), api.ErrArg}, {circuit(9, x(10)), api.ErrArg}, {circuit(9, x(0)), api.ErrArg}, {circuit(0, x(1)), api.ErrArg},
		{circuit(9, not()), api.ErrArg}, {circuit(9, yes, not(1)), api.ErrArg}, {circuit(9, yes, and(-1)), api.ErrArg}, {circuit(9, yes, iff(0)), api.ErrArg},
		{circuit(9, yes, cond(0, 0)), api.ErrArg}, {circuit(9, api.Gate{Kind: 9}), api.ErrArg}, {circuit(9, api.Gate{Kind: -1}), api.ErrArg},
		{circuit(9, api.Gate{Kind: api.GateAnd, Lit: 1}), api.ErrArg}, {circuit(9, api.Gate{Kind: api.GateTrue, Lit: 1}), api.ErrArg},
		{circuit(9, not(), yes), api.ErrArg}, {circuit(9, or(0)), api.ErrArg},
		{circuit(-1, yes), api.ErrRange}, {circuit(129, yes), api.ErrRange}, {circuit(129), api.ErrRange}, {circuit(129, yes, or(long...)), api.ErrRange},
		{circuit(9, yes, or(long...)), api.ErrLong}, {api.Circuit{N: 9, L: make([]api.Gate, 4097)}, api.ErrLong}, {circuit(9, not(), or(long...)), api.ErrLong},
	}
	for _, n := range numbers() {
		if n < 0 || n > 128 {
			l = append(l, l[0])
			l[len(l)-1].c, l[len(l)-1].e = circuit(n, x(1)), api.ErrRange
		}
	}
	for _, w := range l {
		if e := circ.Check(w.c); e != w.e {
			t.Error("the test is wrong", w.c.N, len(w.c.L), e)
		}
		if text, e := infix.Print(w.c); text != "" || e != w.e {
			t.Error(w.c.N, len(w.c.L), text, e, w.e)
		}
	}
}
