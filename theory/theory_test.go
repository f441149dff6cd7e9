package theory_test

import (
	"math"
	"math/rand/v2"
	"slices"
	"testing"

	"census/api"
	"census/theory"
	"census/vars"
)

// variable returns the variable of a literal.
func variable(x int) int { return max(x, -x) }

// isLiteral reports whether x is a literal of n variables.
func isLiteral(x, n int) bool { return x >= -n && x <= n && x != 0 }

// fault returns what Check returns, by the definition.
func fault(t api.Theory) api.Errno {
	switch {
	case t.N < 0 || t.N > 128:
		return api.ErrRange
	case len(t.L) > 4096:
		return api.ErrLong
	}
	for _, c := range t.L {
		if len(c) > 128 {
			return api.ErrLong
		}
		for _, x := range c {
			if !isLiteral(x, t.N) {
				return api.ErrArg
			}
		}
	}
	return api.OK
}

// isTrue reports whether a literal is true in the set a.
func isTrue(a api.Set, x int) bool {
	v := variable(x)
	return (a[(v-1)/64]>>((v-1)%64)&1 == 1) == (x > 0)
}

// models reports whether a valid theory is true in a, by the definition.
func models(t api.Theory, a api.Set) bool {
	for _, c := range t.L {
		if !slices.ContainsFunc(c, func(x int) bool { return isTrue(a, x) }) {
			return false
		}
	}
	return true
}

// beyond reports whether a has a variable above n.
func beyond(a api.Set, n int) bool {
	for v := n + 1; v <= 128; v++ {
		if isTrue(a, v) {
			return true
		}
	}
	return false
}

// opposite reports whether l contains opposite literals.
func opposite(l []int) bool {
	return slices.ContainsFunc(l, func(x int) bool { return slices.Contains(l, -x) })
}

// earlier reports whether the clause c comes before d in the order of the normal form.
func earlier(c, d []int) bool {
	if len(c) != len(d) {
		return len(c) < len(d)
	}
	for i, x := range c {
		if x == d[i] {
			continue
		}
		if variable(x) != variable(d[i]) {
			return variable(x) < variable(d[i])
		}
		return x < 0
	}
	return false
}

// normalForm returns the normal form of a valid theory: each clause is put before the first one that comes later.
func normalForm(t api.Theory) api.Theory {
	n := api.Theory{N: t.N}
	for _, c := range t.L {
		if opposite(c) {
			continue
		}
		var d []int
		for v := 1; v <= t.N; v++ {
			for _, x := range []int{-v, v} {
				if slices.Contains(c, x) {
					d = append(d, x)
				}
			}
		}
		if slices.ContainsFunc(n.L, func(e []int) bool { return slices.Equal(d, e) }) {
			continue
		}
		i := slices.IndexFunc(n.L, func(e []int) bool { return earlier(d, e) })
		if i < 0 {
			i = len(n.L)
		}
		n.L = slices.Insert(n.L, i, d)
	}
	return n
}

// left returns what is left of a theory, given the literals of term, by the definition.
func left(t api.Theory, term []int) api.Theory {
	l := api.Theory{N: t.N}
	for _, c := range t.L {
		if slices.ContainsFunc(c, func(x int) bool { return slices.Contains(term, x) }) {
			continue
		}
		var d []int
		for _, x := range c {
			if !slices.Contains(term, -x) {
				d = append(d, x)
			}
		}
		l.L = append(l.L, d)
	}
	return l
}

// same reports whether two theories are equal.
func same(a, b api.Theory) bool {
	return a.N == b.N && slices.EqualFunc(a.L, b.L, slices.Equal[[]int])
}

// copied returns a theory that shares no memory with t.
func copied(t api.Theory) api.Theory {
	c := api.Theory{N: t.N}
	for _, l := range t.L {
		c.L = append(c.L, slices.Clone(l))
	}
	return c
}

// numbers returns numbers of variables that are not valid, some of which a narrower type would turn into one that is.
func numbers() []int {
	l := []int{math.MinInt, math.MinInt + 1, math.MaxInt, -1 << 32, -129, -128, -2, -1, 129, 130, 255, 256, 257, 1000}
	for _, k := range []int{8, 16, 32, 62} {
		l = append(l, 1<<k+5, -1<<k+5, 1<<k+128)
	}
	return l
}

// noLiterals returns numbers that are no literals of n variables, for n up to 128.
func noLiterals(n int) []int {
	l := append(numbers(), 0, n+1, -n-1, 1<<8+1, 1<<16+1, 1<<32+1, -1<<32-1, -1<<32+1)
	return slices.DeleteFunc(l, func(x int) bool { return isLiteral(x, n) })
}

// randomClause returns a clause of at most k literals of n variables; literals repeat and are opposite in some.
func randomClause(r *rand.Rand, n, k int) []int {
	c := make([]int, r.IntN(k+1))
	if n == 0 {
		return nil
	}
	for i := range c {
		c[i] = (1 + r.IntN(n)) * (1 - 2*r.IntN(2))
	}
	return c
}

// randomTheory returns a valid theory of n variables, with at most m clauses of at most k literals.
func randomTheory(r *rand.Rand, n, m, k int) api.Theory {
	t := api.Theory{N: n}
	for range r.IntN(m + 1) {
		t.L = append(t.L, randomClause(r, n, k))
		if r.IntN(4) == 0 {
			t.L = append(t.L, slices.Clone(t.L[r.IntN(len(t.L))]))
		}
	}
	return t
}

// valid calls f with many valid theories, those at the limits included.
func valid(f func(t api.Theory)) {
	f(api.Theory{})
	f(api.Theory{L: [][]int{}})
	f(api.Theory{L: [][]int{nil, {}}})
	f(api.Theory{N: 128})
	f(api.Theory{N: 128, L: [][]int{{128, -128}, {-128, 1, -1, 128}, {}, {128}, {-128}, nil}})
	r := rand.New(rand.NewPCG(1, 2))
	for i := range 3000 {
		n := []int{1, 2, 3, 5, 63, 64, 65, 127, 128, 0}[i%10]
		f(randomTheory(r, n, 12, 1+i%7))
	}
	for range 20 {
		f(randomTheory(r, 128, 40, 128))
	}
	f(full(4096, 3))
	f(full(300, 128))
}

// full returns a theory of 128 variables, with m clauses of k literals each.
func full(m, k int) api.Theory {
	r := rand.New(rand.NewPCG(3, 4))
	t := api.Theory{N: 128}
	for range m {
		c := r.Perm(128)[:k]
		for i := range c {
			c[i] = (c[i] + 1) * (1 - 2*r.IntN(2))
		}
		t.L = append(t.L, c)
	}
	return t
}

// wrong is a theory that is not valid, and what is wrong with it.
type wrong struct {
	t api.Theory
	e api.Errno
}

// invalid returns theories that are not valid, with one fault or with several.
func invalid() []wrong {
	var l []wrong
	long := slices.Repeat([]int{1}, 129)
	for _, n := range numbers() {
		l = append(l, wrong{api.Theory{N: n}, api.ErrRange})
		l = append(l, wrong{api.Theory{N: n, L: [][]int{{1}, long, {0}}}, api.ErrRange})
		l = append(l, wrong{api.Theory{N: n, L: slices.Repeat([][]int{{1}}, 4097)}, api.ErrRange})
	}
	for _, m := range []int{4097, 4098, 70000} {
		l = append(l, wrong{api.Theory{N: 0, L: make([][]int, m)}, api.ErrLong})
		l = append(l, wrong{api.Theory{N: 128, L: slices.Repeat([][]int{{1}}, m)}, api.ErrLong})
		l = append(l, wrong{api.Theory{N: 2, L: slices.Repeat([][]int{{3}}, m)}, api.ErrLong})
	}
	for _, k := range []int{129, 130, 256 + 1, 70000} {
		l = append(l, wrong{api.Theory{N: 1, L: [][]int{slices.Repeat([]int{-1}, k)}}, api.ErrLong})
		l = append(l, wrong{api.Theory{N: 1, L: [][]int{{1}, make([]int, k), {2}}}, api.ErrLong})
		l = append(l, wrong{api.Theory{N: 0, L: [][]int{slices.Repeat([]int{1}, k)}}, api.ErrLong})
	}
	for _, n := range []int{0, 1, 2, 63, 64, 127, 128} {
		for _, x := range noLiterals(n) {
			l = append(l, wrong{api.Theory{N: n, L: [][]int{{x}}}, api.ErrArg})
			l = append(l, wrong{api.Theory{N: n, L: [][]int{nil, {x}, nil, long}}, api.ErrArg})
			l = append(l, wrong{api.Theory{N: n, L: [][]int{nil, append(slices.Clone(long), x), {x}}}, api.ErrLong})
			l = append(l, wrong{api.Theory{N: n, L: [][]int{append(slices.Repeat([]int{min(n, 1)}, 127), x)}}, api.ErrArg})
			if n > 0 {
				l = append(l, wrong{api.Theory{N: n, L: [][]int{{1}, {-1, 1, x}, {0}}}, api.ErrArg})
				l = append(l, wrong{api.Theory{N: n, L: [][]int{{1}, long, {x}}}, api.ErrLong})
			}
		}
	}
	return l
}

func TestCheck(t *testing.T) { // P5.1
	valid(func(x api.Theory) {
		before := copied(x)
		if e := theory.Check(x); e != api.OK || !same(x, before) {
			t.Error(x, e)
		}
	})
	for _, w := range invalid() {
		if w.e != fault(w.t) {
			t.Fatal("the test is wrong", w)
		}
		if e := theory.Check(w.t); e != w.e {
			t.Error(w.t.N, len(w.t.L), e, w.e)
		}
	}
	for n := range 130 {
		for x := -130; x <= 130; x++ {
			y := api.Theory{N: n, L: [][]int{{x}}}
			if e := theory.Check(y); e != fault(y) {
				t.Error(y, e)
			}
		}
	}
	for _, e := range []api.Errno{theory.Check(full(4096, 128)), theory.Check(api.Theory{L: make([][]int, 4096)}),
		theory.Check(api.Theory{N: 1, L: [][]int{slices.Repeat([]int{1}, 128)}})} {
		if e != api.OK {
			t.Error("at the limits", e)
		}
	}
}

func TestNormal(t *testing.T) { // P5.2
	valid(func(x api.Theory) {
		before := copied(x)
		got, e := theory.Normal(x)
		if e != api.OK || !same(got, normalForm(x)) {
			t.Error(x, got, e)
		}
		if !same(x, before) {
			t.Error("the argument has changed", before)
		}
	})
	for _, w := range invalid() {
		if got, e := theory.Normal(w.t); e != w.e || got.N != 0 || got.L != nil {
			t.Error(w.t.N, got, e, w.e)
		}
	}
}

// TestNormalOrder has the clauses of three variables that are not always true, in many orders.
func TestNormalOrder(t *testing.T) { // P5.2
	want := [][]int{
		{}, {-1}, {1}, {-2}, {2}, {-3}, {3},
		{-1, -2}, {-1, 2}, {-1, -3}, {-1, 3}, {1, -2}, {1, 2}, {1, -3}, {1, 3}, {-2, -3}, {-2, 3}, {2, -3}, {2, 3},
		{-1, -2, -3}, {-1, -2, 3}, {-1, 2, -3}, {-1, 2, 3}, {1, -2, -3}, {1, -2, 3}, {1, 2, -3}, {1, 2, 3},
	}
	r := rand.New(rand.NewPCG(5, 6))
	for range 300 {
		x := api.Theory{N: 3}
		for _, i := range append(r.Perm(len(want)), r.Perm(len(want))...) {
			c := slices.Concat(want[i], want[i][len(want[i])/2:])
			r.Shuffle(len(c), func(i, k int) { c[i], c[k] = c[k], c[i] })
			x.L = append(x.L, c)
		}
		x.L = append(x.L, []int{1, -1}, []int{3, 1, 2, -3})
		if got, e := theory.Normal(x); e != api.OK || !same(got, api.Theory{N: 3, L: want}) {
			t.Fatal(x, got, e)
		}
	}
}

// sets returns some sets of variables: of few, of most, and of some.
func sets(r *rand.Rand) []api.Set {
	l := []api.Set{{}, {math.MaxUint64, math.MaxUint64}, {1, 1}, {1 << 63, 1 << 63}}
	for range 6 {
		l = append(l, api.Set{r.Uint64(), r.Uint64()}, api.Set{r.Uint64() & r.Uint64(), 0})
	}
	return l
}

func TestEval(t *testing.T) { // P5.3
	r := rand.New(rand.NewPCG(7, 8))
	yes, no, others := 0, 0, 0
	valid(func(x api.Theory) {
		before := copied(x)
		for _, a := range sets(r) {
			for _, b := range []api.Set{a, vars.Cut(a, vars.All(x.N)), vars.With(vars.Cut(a, vars.All(x.N)), x.N+1)} {
				want := !beyond(b, x.N) && models(x, b)
				if got := theory.Eval(x, b); got != want {
					t.Error(x, b, got)
				}
				switch {
				case want:
					yes++
				case beyond(b, x.N):
					others++
				default:
					no++
				}
			}
		}
		if !same(x, before) {
			t.Error("the argument has changed", before)
		}
	})
	if yes < 1000 || no < 1000 || others < 1000 {
		t.Error("the test is wrong", yes, no, others)
	}
	for _, w := range invalid() {
		for _, a := range sets(r) {
			if theory.Eval(w.t, a) || theory.Eval(w.t, vars.Cut(a, vars.All(w.t.N))) {
				t.Error(w.t.N, len(w.t.L), a)
			}
		}
	}
}

// TestEvalOthers has one variable too much, each of them, for each number of variables.
func TestEvalOthers(t *testing.T) { // P5.3
	for n := range 129 {
		for v := 1; v <= 128; v++ {
			if got := theory.Eval(api.Theory{N: n}, vars.Of(v)); got != (v <= n) {
				t.Error(n, v, got)
			}
		}
	}
}

// randomTerm returns at most k literals of n variables, which repeat, and none of which are opposite.
func randomTerm(r *rand.Rand, n, k int) []int {
	var term []int
	for _, x := range randomClause(r, n, k) {
		if !slices.Contains(term, -x) {
			term = append(term, x)
		}
	}
	return term
}

func TestGiven(t *testing.T) { // P5.4
	r := rand.New(rand.NewPCG(9, 10))
	dropped := 0
	valid(func(x api.Theory) {
		before := copied(x)
		for i := range 12 {
			term := randomTerm(r, x.N, []int{1, 2, 5, 3 * x.N}[i%4])
			l := slices.Clone(term)
			got, e := theory.Given(x, term)
			if e != api.OK || !same(got, left(x, term)) {
				t.Error(x, term, got, e)
			}
			dropped += len(x.L) - len(got.L)
			if !slices.Equal(term, l) || !same(x, before) {
				t.Error("the arguments have changed", before, l)
			}
		}
	})
	if dropped < 1000 {
		t.Error("the test is wrong", dropped)
	}
}

func TestGivenRefuses(t *testing.T) { // P5.4
	for _, w := range invalid() {
		for _, term := range [][]int{nil, {1}, {0}, {1, -1}} {
			if got, e := theory.Given(w.t, term); e != w.e || got.N != 0 || got.L != nil {
				t.Error(w.t.N, got, e, w.e)
			}
		}
	}
	for _, n := range []int{0, 1, 3, 64, 127, 128} {
		x := api.Theory{N: n, L: [][]int{{}}}
		terms := [][]int{}
		for _, y := range noLiterals(n) {
			terms = append(terms, []int{y}, []int{min(n, 1), y}, []int{y, min(n, 1)})
		}
		if n > 0 {
			terms = append(terms, []int{n, -n}, []int{-n, n, n}, []int{1, n, -1}, slices.Concat(slices.Repeat([]int{n}, 1000), []int{-n}))
		}
		for _, term := range terms {
			if got, e := theory.Given(x, term); e != api.ErrArg || got.N != 0 || got.L != nil {
				t.Error(n, term, got, e)
			}
		}
	}
}

func TestGivenLong(t *testing.T) { // P1, P5.4
	var term []int
	for i := range 200000 {
		term = append(term, (i%64+1)*(1-2*(i%2)))
	}
	x := full(4096, 128)
	got, e := theory.Given(x, term)
	if e != api.OK || !same(got, left(x, term[:64])) {
		t.Error(e, len(got.L))
	}
}

func TestVars(t *testing.T) { // P5.5
	valid(func(x api.Theory) {
		before := copied(x)
		var want api.Set
		for _, c := range x.L {
			for _, y := range c {
				v := variable(y)
				want[(v-1)/64] |= 1 << ((v - 1) % 64)
			}
		}
		if got := theory.Vars(x); got != want || !same(x, before) {
			t.Error(x, got)
		}
	})
	for v := 1; v <= 128; v++ {
		for _, x := range []int{v, -v} {
			if got := theory.Vars(api.Theory{N: 128, L: [][]int{{}, {x, x}, {-x}}}); got != vars.Of(v) {
				t.Error(x, got)
			}
		}
	}
	for _, w := range invalid() {
		if got := theory.Vars(w.t); got != (api.Set{}) {
			t.Error(w.t.N, got)
		}
	}
}

// joined returns what Join returns, by the definition.
func joined(a, b api.Theory) (api.Theory, api.Errno) {
	for _, e := range []api.Errno{fault(a), fault(b)} {
		if e != api.OK {
			return api.Theory{}, e
		}
	}
	if len(a.L)+len(b.L) > 4096 {
		return api.Theory{}, api.ErrLong
	}
	return api.Theory{N: max(a.N, b.N), L: slices.Concat(a.L, b.L)}, api.OK
}

// checkJoin compares Join with the definition.
func checkJoin(t *testing.T, a, b api.Theory) {
	t.Helper()
	got, e := theory.Join(a, b)
	want, w := joined(a, b)
	if e != w || !same(got, want) {
		t.Error(a.N, len(a.L), b.N, len(b.L), got.N, len(got.L), e, w)
	}
}

func TestJoin(t *testing.T) { // P5.5
	few := []api.Theory{{}, {N: 128}, {N: 4, L: [][]int{{4}, {4}, {}, {-1, 3, 1, 1}}}, {N: 0, L: [][]int{nil}}}
	valid(func(x api.Theory) {
		before := copied(x)
		for _, y := range few {
			checkJoin(t, x, y)
			checkJoin(t, y, x)
		}
		checkJoin(t, x, x)
		if !same(x, before) {
			t.Error("the argument has changed", before)
		}
	})
	for _, n := range [][2]int{{4096, 0}, {0, 4096}, {4096, 1}, {1, 4096}, {2000, 2096}, {2000, 2097}, {4095, 1}, {4096, 4096}} {
		a, b := full(n[0], 2), full(n[1], 3)
		a.N = 128
		checkJoin(t, a, b)
	}
}

func TestJoinRefuses(t *testing.T) { // P5.5
	bad := invalid()
	long := full(4096, 1)
	for i, w := range bad {
		for _, x := range []api.Theory{{}, {N: 3, L: [][]int{{1}, {2, 3}}}, long, bad[(i+1)%len(bad)].t, bad[(i+20)%len(bad)].t} {
			checkJoin(t, w.t, x)
			checkJoin(t, x, w.t)
		}
	}
}

// TestExamples has the examples of the chapter.
func TestExamples(t *testing.T) { // P5.1 to P5.5
	x := api.Theory{N: 3, L: [][]int{{2, -1, 2}, {3}, {1, -1}, {-1, 2}}}
	if n, e := theory.Normal(x); e != api.OK || !same(n, api.Theory{N: 3, L: [][]int{{3}, {-1, 2}}}) {
		t.Error("Normal", n, e)
	}
	if !theory.Eval(x, vars.Of(3)) || theory.Eval(x, vars.Of(1, 3)) || theory.Eval(x, vars.Of()) || theory.Eval(x, vars.Of(3, 4)) {
		t.Error("Eval")
	}
	if g, e := theory.Given(x, []int{1}); e != api.OK || !same(g, api.Theory{N: 3, L: [][]int{{2, 2}, {3}, {2}}}) {
		t.Error("Given 1", g, e)
	}
	if g, e := theory.Given(x, []int{-1, 3}); e != api.OK || !same(g, api.Theory{N: 3}) {
		t.Error("Given -1, 3", g, e)
	}
	if g, e := theory.Given(x, []int{1, -1}); e != api.ErrArg || !same(g, api.Theory{}) {
		t.Error("Given 1, -1", g, e)
	}
	four := [][]int{{4}}
	if theory.Vars(x) != vars.Of(1, 2, 3) || theory.Vars(api.Theory{N: 3, L: four}) != vars.Of() {
		t.Error("Vars")
	}
	if j, e := theory.Join(x, api.Theory{N: 4, L: four}); e != api.OK || !same(j, api.Theory{N: 4, L: slices.Concat(x.L, four)}) {
		t.Error("Join", j, e)
	}
}
