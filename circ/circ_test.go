package circ_test

import (
	"math"
	"math/rand/v2"
	"slices"
	"testing"

	"census/api"
	"census/circ"
)

// wrong is a circuit that is not valid, with its error.
type wrong struct {
	c api.Circuit
	e api.Errno
}

// wrongGates returns gates that are wrong, at the index 3 of a circuit of n variables.
func wrongGates(n int) []api.Gate {
	l := []api.Gate{not(), not(0, 1), not(0, 0), iff(), iff(0), iff(0, 1, 2), cond(), cond(0), cond(0, 1), cond(0, 1, 2, 0),
		{Kind: api.GateFalse, In: []int{0}}, {Kind: api.GateTrue, In: []int{0}}, {Kind: api.GateLit, Lit: 1, In: []int{0}}, {Kind: api.GateLit}}
	for _, k := range numbers() {
		if k < 0 || k > 8 {
			l = append(l, api.Gate{Kind: k}, api.Gate{Kind: k, In: []int{0}}, api.Gate{Kind: k, In: []int{0, 1}}, api.Gate{Kind: k, Lit: 1})
		}
		if k < 0 || k > 2 {
			l = append(l, not(k), and(k), or(0, k), xor(k, 1, 2), iff(0, k), iff(k, 0), cond(k, 0, 1), cond(0, k, 1), cond(0, 1, k))
		}
		if !isLiteral(k, n) {
			l = append(l, x(k))
		}
		if k != 0 {
			l = append(l, api.Gate{Lit: k}, api.Gate{Kind: api.GateTrue, Lit: k})
			for _, g := range []api.Gate{not(0), and(0), and(), or(0, 1), xor(0), iff(0, 1), cond(0, 1, 2)} {
				g.Lit = k
				l = append(l, g)
			}
		}
	}
	return l
}

// invalid returns circuits that are not valid, some of them for several reasons.
func invalid() []wrong {
	l := []wrong{{api.Circuit{}, api.ErrArg}, {circuit(128), api.ErrArg}, {api.Circuit{N: 3, L: []api.Gate{}}, api.ErrArg},
		{circuit(0, x(1)), api.ErrArg}, {circuit(1, not(0)), api.ErrArg}, {circuit(1, and(0)), api.ErrArg}, {circuit(1, yes, or(1)), api.ErrArg},
		{circuit(1, yes, or(2), yes), api.ErrArg}, {circuit(1, xor(-1), yes), api.ErrArg}}
	for _, n := range []int{0, 1, 64, 128} {
		for _, g := range wrongGates(n) {
			l = append(l, wrong{circuit(n, yes, no, yes, g), api.ErrArg}, wrong{circuit(n, no, yes, yes, g, or(0)), api.ErrArg})
		}
	}
	for _, n := range numbers() {
		if n < 0 || n > 128 {
			l = append(l, wrong{circuit(n, yes), api.ErrRange}, wrong{circuit(n), api.ErrRange}, wrong{circuit(n, not()), api.ErrRange},
				wrong{circuit(n, x(1)), api.ErrRange}, wrong{api.Circuit{N: n, L: make([]api.Gate, 4097)}, api.ErrRange},
				wrong{circuit(n, no, or(make([]int, 65537)...)), api.ErrRange})
		}
	}
	for _, n := range []int{0, 128} {
		bad := make([]api.Gate, 5000)
		bad[0].Kind = -1
		half := slices.Repeat([]int{-5}, 32769)
		l = append(l, wrong{api.Circuit{N: n, L: make([]api.Gate, 4097)}, api.ErrLong}, wrong{api.Circuit{N: n, L: bad}, api.ErrLong},
			wrong{api.Circuit{N: n, L: bad[:4096]}, api.ErrArg}, wrong{circuit(n, no, or(make([]int, 65537)...)), api.ErrLong},
			wrong{circuit(n, and(half...), api.Gate{Kind: 99, In: half}), api.ErrLong}, wrong{circuit(n, and(half...), yes), api.ErrArg},
			wrong{circuit(n, or(half...), and(half[1:]...)), api.ErrLong}, wrong{circuit(n, or(half[1:]...), and(half[1:]...)), api.ErrArg})
	}
	return append(l, wrong{many(4097, 65536), api.ErrLong}, wrong{many(4096, 65537), api.ErrLong}, wrong{wide(api.GateXor, 65537), api.ErrLong})
}

// checkCheck compares Check with the definition.
func checkCheck(t *testing.T, c api.Circuit, want api.Errno) {
	t.Helper()
	if fault(c) != want {
		t.Fatal("the test is wrong", c.N, len(c.L), fault(c), want)
	}
	before := copied(c)
	if e := circ.Check(c); e != want || !same(c, before) {
		t.Error(c.N, len(c.L), e, want)
	}
}

func TestCheck(t *testing.T) { // P7.1
	for _, w := range invalid() {
		checkCheck(t, w.c, w.e)
	}
	for _, c := range big() {
		checkCheck(t, c, api.OK)
	}
	small(func(c api.Circuit) { checkCheck(t, c, api.OK) })
	for _, c := range []api.Circuit{circuit(0, no), circuit(0, yes), circuit(0, and()), circuit(0, or()), circuit(0, xor()),
		circuit(128, x(128)), circuit(1, x(-1), not(0), iff(1, 1), cond(2, 0, 2), xor(3, 3, 3))} {
		checkCheck(t, c, api.OK)
	}
	if m := big(); len(m[len(m)-1].L) != 4096 || inputs(m[len(m)-1]) != 65536 || inputs(m[len(m)-2]) != 65536 {
		t.Error("the test is wrong: not at the limits")
	}
}

// TestCheckGates has each number of inputs of each kind, and each literal of each number of variables.
func TestCheckGates(t *testing.T) { // P7.1
	for kind := -2; kind <= 11; kind++ {
		for k := range 7 {
			for _, y := range []int{0, 1, -1} {
				c := circuit(1, yes, api.Gate{Kind: kind, Lit: y, In: make([]int, k)})
				checkCheck(t, c, fault(c))
			}
		}
	}
	for n := range 129 {
		for y := -130; y <= 130; y++ {
			checkCheck(t, circuit(n, x(y)), fault(circuit(n, x(y))))
		}
	}
}

// TestCheckSpoiled changes one number of a valid circuit.
func TestCheckSpoiled(t *testing.T) { // P7.1
	r := rand.New(rand.NewPCG(5, 6))
	faults := map[api.Errno]int{}
	l := numbers()
	small(func(c api.Circuit) {
		g := &c.L[r.IntN(len(c.L))]
		switch k := l[r.IntN(len(l))]; r.IntN(5) {
		case 0:
			c.N = k
		case 1:
			g.Kind = r.IntN(9)
		case 2:
			g.Lit = k
		case 3:
			g.In = append(g.In, r.IntN(len(c.L)))
		case 4:
			if len(g.In) > 0 {
				g.In[r.IntN(len(g.In))] = r.IntN(len(c.L)+2) - 1
			}
		}
		checkCheck(t, c, fault(c))
		faults[fault(c)]++
	})
	if faults[api.OK] < 1000 || faults[api.ErrArg] < 1000 || faults[api.ErrRange] < 1000 {
		t.Error("the test is wrong", faults)
	}
}

// checkEval compares Eval with the definition, for at most 64 assignments.
func checkEval(t *testing.T, c api.Circuit, as []api.Set) {
	t.Helper()
	before := copied(c)
	m := modelsAmong(c, as)
	for k, a := range as {
		if got := circ.Eval(c, a); got != (m>>k&1 == 1) {
			t.Fatal(c, a, got)
		}
	}
	if !same(c, before) {
		t.Error("the argument has changed", before)
	}
}

func TestEval(t *testing.T) { // P7.2
	count := 0
	check := func(c api.Circuit) {
		checkEval(t, c, assignments(c.N))
		if m := modelsAmong(c, assignments(c.N)); m != 0 && m != 1<<(1<<c.N)-1 {
			count++
		}
	}
	small(check)
	oneGate(check)
	if count < 10000 {
		t.Error("the test is wrong", count)
	}
	r := rand.New(rand.NewPCG(7, 8))
	for _, c := range big() {
		checkEval(t, c, someAssignments(r, c.N))
	}
}

// TestEvalKinds has the values of each kind of gate, as the chapter says them.
func TestEvalKinds(t *testing.T) { // P7.2
	three := []api.Gate{x(1), x(2), x(3)}
	for _, l := range []struct {
		g    api.Gate
		want string // for the assignments {}, {1}, {2}, {1, 2}, {3}, {1, 3}, {2, 3}, {1, 2, 3}
	}{
		{no, "00000000"}, {yes, "11111111"}, {x(2), "00110011"}, {x(-2), "11001100"}, {not(2), "11110000"},
		{and(), "11111111"}, {and(1), "00110011"}, {and(0, 1), "00010001"}, {and(0, 1, 2), "00000001"}, {and(2, 2), "00001111"},
		{or(), "00000000"}, {or(1), "00110011"}, {or(0, 1), "01110111"}, {or(0, 1, 2), "01111111"}, {or(2, 2), "00001111"},
		{xor(), "00000000"}, {xor(1), "00110011"}, {xor(0, 1), "01100110"}, {xor(0, 1, 2), "01101001"}, {xor(2, 2), "00000000"},
		{xor(2, 2, 2), "00001111"}, {xor(0, 1, 0), "00110011"}, {xor(0, 0, 0, 1, 1), "01010101"},
		{iff(0, 1), "10011001"}, {iff(1, 2), "11000011"}, {iff(1, 1), "11111111"},
		{cond(0, 1, 2), "00011011"}, {cond(2, 1, 0), "01010011"}, {cond(1, 1, 1), "00110011"}, {cond(0, 0, 1), "01110111"}, {cond(0, 1, 0), "00010001"},
	} {
		c := circuit(3, append(slices.Clone(three), l.g)...)
		for k, a := range assignments(3) {
			if got := circ.Eval(c, a); got != (l.want[k] == '1') {
				t.Error(l.g, a, got)
			}
		}
	}
}

// TestEvalOthers has one variable too much, each of them, for each number of variables.
func TestEvalOthers(t *testing.T) { // P7.2
	for n := range 129 {
		for v := 1; v <= 128; v++ {
			var a api.Set
			a[(v-1)/64] = 1 << ((v - 1) % 64)
			if got := circ.Eval(circuit(n, and()), a); got != (v <= n) {
				t.Error(n, v, got)
			}
			if got := circ.Eval(circuit(128, x(n), x(-n), xor(0, 1)), a); got != (n > 0) {
				t.Error("of a literal", n, v, got)
			}
		}
	}
	if circ.Eval(circuit(64, yes), api.Set{0, math.MaxUint64}) || circ.Eval(circuit(64, yes), api.Set{1, 1}) || !circ.Eval(circuit(64, yes), api.Set{math.MaxUint64, 0}) {
		t.Error("above 64")
	}
}

func TestInvalid(t *testing.T) { // P7.2, P7.3, P7.4
	for _, w := range invalid() {
		for _, a := range []api.Set{{}, {1, 0}, {math.MaxUint64, math.MaxUint64}} {
			if circ.Eval(w.c, a) {
				t.Error("Eval", w.c.N, len(w.c.L), a)
			}
		}
		if got := circ.Vars(w.c); got != (api.Set{}) {
			t.Error("Vars", w.c.N, len(w.c.L), got)
		}
		if got, e := circ.Fold(w.c); e != w.e || got.N != 0 || len(got.L) != 0 {
			t.Error("Fold", w.c.N, len(w.c.L), got, e, w.e)
		}
		if got := circ.Size(w.c); got != inputs(w.c) {
			t.Error("Size", w.c.N, len(w.c.L), got)
		}
	}
}

// TestValidBesides has circuits that are valid up to one wrong gate at the end or at the start.
func TestValidBesides(t *testing.T) { // P7.2, P7.3
	for _, c := range []api.Circuit{circuit(3, x(2), yes, not()), circuit(3, x(2), x(4), yes), circuit(3, x(0), x(3), yes),
		circuit(3, x(1), and(1), yes), circuit(3, x(1), api.Gate{Kind: 9}, yes)} {
		if circ.Eval(c, api.Set{}) || circ.Eval(c, api.Set{7, 0}) || circ.Vars(c) != (api.Set{}) {
			t.Error(c)
		}
	}
}

// checkVars compares Vars and Size with the definition.
func checkVars(t *testing.T, c api.Circuit) {
	t.Helper()
	before := copied(c)
	var want api.Set
	for _, g := range c.L {
		if v := max(g.Lit, -g.Lit); g.Kind == api.GateLit {
			want[(v-1)/64] |= 1 << ((v - 1) % 64)
		}
	}
	if got := circ.Vars(c); got != want {
		t.Error(c, got, want)
	}
	if got := circ.Size(c); got != inputs(c) || !same(c, before) {
		t.Error(before, got)
	}
}

func TestVarsAndSize(t *testing.T) { // P7.3
	small(func(c api.Circuit) { checkVars(t, c) })
	for _, c := range big() {
		checkVars(t, c)
	}
	for v := 1; v <= 128; v++ {
		checkVars(t, circuit(v, x(v)))
		checkVars(t, circuit(128, x(-v), yes))
		checkVars(t, circuit(128, x(1), x(-v), x(v), xor(1, 2), x(128), no))
	}
}

// TestVarsOfAll has variables that the root does not need, and gates without variables.
func TestVarsOfAll(t *testing.T) { // P7.3
	for _, l := range []struct {
		c    api.Circuit
		want api.Set
		size int
	}{
		{circuit(128, x(3), x(-65), yes), api.Set{4, 1}, 0},
		{circuit(2, x(2), xor(0, 0), and(1, 1, 1)), api.Set{2, 0}, 5},
		{circuit(5, yes, not(0)), api.Set{}, 1},
		{circuit(128, and(), or(), xor()), api.Set{}, 0},
		{circuit(4, x(4), x(1), x(-4), iff(0, 1), cond(2, 3, 3)), api.Set{9, 0}, 5},
	} {
		if got, size := circ.Vars(l.c), circ.Size(l.c); got != l.want || size != l.size {
			t.Error(l.c, got, size)
		}
	}
}

func TestSizeOfAny(t *testing.T) { // P7.3
	long := make([]int, 100000)
	for _, l := range []struct {
		c    api.Circuit
		want int
	}{
		{api.Circuit{}, 0}, {circuit(-1, not(0, 1, 7)), 3}, {circuit(3, api.Gate{Kind: 99, In: []int{-1, -2}}, no, and(5)), 3},
		{circuit(1, api.Gate{Kind: api.GateTrue, In: []int{0}}, x(7)), 1}, {circuit(1, or(long...), or(long...)), 200000},
		{api.Circuit{N: math.MinInt, L: slices.Repeat([]api.Gate{and(long...)}, 50000)}, 5000000000},
	} {
		if got := circ.Size(l.c); got != l.want {
			t.Error(got, l.want)
		}
	}
}

func TestSame(t *testing.T) { // P7.5
	c := circuit(3, x(1), x(-2), and(0, 1), or(0, 0, 2), yes)
	if !circ.Same(c, copied(c)) || !circ.Same(c, c) || !circ.Same(api.Circuit{}, circuit(0)) {
		t.Error("not the same")
	}
	for i, f := range []func(d *api.Circuit){
		func(d *api.Circuit) { d.N = 4 },
		func(d *api.Circuit) { d.N = -3 },
		func(d *api.Circuit) { d.L = d.L[:4] },
		func(d *api.Circuit) { d.L = d.L[1:] },
		func(d *api.Circuit) { d.L = nil },
		func(d *api.Circuit) { d.L = append(d.L, yes) },
		func(d *api.Circuit) { d.L[0], d.L[1] = d.L[1], d.L[0] },
		func(d *api.Circuit) { d.L[4].Kind = api.GateFalse },
		func(d *api.Circuit) { d.L[2].Kind = api.GateXor },
		func(d *api.Circuit) { d.L[0].Kind = 77 },
		func(d *api.Circuit) { d.L[0].Lit = -1 },
		func(d *api.Circuit) { d.L[4].Lit = 1 },
		func(d *api.Circuit) { d.L[2].In = []int{1, 0} },
		func(d *api.Circuit) { d.L[2].In = []int{0} },
		func(d *api.Circuit) { d.L[2].In = nil },
		func(d *api.Circuit) { d.L[3].In = []int{0, 0, 2, 2} },
		func(d *api.Circuit) { d.L[3].In = []int{0, 0, 1} },
		func(d *api.Circuit) { d.L[4].In = []int{0} },
	} {
		d := copied(c)
		f(&d)
		if circ.Same(c, d) || circ.Same(d, c) {
			t.Error("the same", i, d)
		}
		if !circ.Same(d, copied(d)) {
			t.Error("not the same as itself", i, d)
		}
	}
	empty := api.Circuit{L: []api.Gate{{In: []int{}}}}
	if !circ.Same(empty, circuit(0, no)) || !circ.Same(circuit(0, no), empty) || !circ.Same(circuit(7), api.Circuit{N: 7, L: []api.Gate{}}) {
		t.Error("nil and empty slices are the same")
	}
}

func TestSameOfAny(t *testing.T) { // P7.5
	l := invalid()
	r := rand.New(rand.NewPCG(9, 10))
	for range 3000 {
		l = append(l, wrong{c: randomCircuit(r, r.IntN(2), 1+r.IntN(2))})
	}
	equal := 0
	for _, w := range l {
		if !circ.Same(w.c, copied(w.c)) {
			t.Error("not the same as itself", w.c.N, len(w.c.L))
		}
		for range 20 {
			d := l[len(l)-1-r.IntN(4000)].c
			if got := circ.Same(w.c, d); got != same(w.c, d) {
				t.Error(w.c.N, len(w.c.L), d.N, len(d.L), got)
			}
			if same(w.c, d) {
				equal++
			}
		}
	}
	if equal < 200 {
		t.Error("the test is wrong", equal)
	}
}
