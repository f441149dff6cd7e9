package infix_test

import (
	"math/rand/v2"
	"slices"
	"strings"
	"testing"

	"census/api"
	"census/circ"
	"census/infix"
)

// valid calls f with valid circuits of all sorts that Print accepts, and with their formulas.
func valid(t *testing.T, f func(c api.Circuit, text string)) {
	t.Helper()
	count := 0
	each := func(c api.Circuit) {
		if text, e := infix.Print(c); e == api.OK {
			count++
			f(c, text)
		} else if e != api.ErrLong {
			t.Error(c, e)
		}
	}
	small(each)
	twoGates(each)
	r := rand.New(rand.NewPCG(9, 10))
	for k := range 150 {
		each(randomCircuit(r, []int{0, 9, 10, 64, 99, 100, 128}[k%7], 1+k))
		each(dense(r, []int{1, 9, 10, 99, 100, 128}[k%6], 10+k))
	}
	each(chain(150, func(i int) api.Gate { return not(i) }))
	each(chain(2000, func(i int) api.Gate { return iff(i, 1) }))
	each(chain(198, func(i int) api.Gate { return cond(0, i, 1) }))
	each(circuit(128, x(-128), and(slices.Repeat([]int{0}, 4095)...)))
	if count < 20000 {
		t.Error("the test is wrong", count)
	}
}

func TestRoundTrip(t *testing.T) { // P8.3
	long := 0
	valid(t, func(c api.Circuit, text string) {
		d, at, e := infix.Parse(text, c.N)
		if ways(c) > 4096 || wrongOpen(text, c.N) {
			long++
			if e != api.ErrLong || len(d.L) != 0 || d.N != 0 {
				t.Errorf("%s: error %d", brief(text), e)
			}
			return
		}
		if !same(d, treeForm(c)) || at != 0 || e != api.OK {
			t.Errorf("%s: %d gates, at %d, error %d; want %d gates", brief(text), len(d.L), at, e, ways(c))
		}
	})
	if long < 10 {
		t.Error("the test is wrong", long)
	}
}

// wrongOpen reports whether too many tokens are open at a place of a text.
func wrongOpen(text string, n int) bool {
	_, e := wrong(text, n)
	return e == api.ErrLong
}

// TestRoundTripLimits has circuits whose tree forms are at the limits, and above them.
func TestRoundTripLimits(t *testing.T) { // P8.3
	for _, l := range []struct {
		c  api.Circuit
		at int
		e  api.Errno
	}{
		{chain(201, func(i int) api.Gate { return not(i) }), 0, api.OK}, // 199 gates and a literal: 200 open tokens
		{chain(202, func(i int) api.Gate { return not(i) }), 200, api.ErrLong},
		{chain(4096, func(i int) api.Gate { return not(i) }), 200, api.ErrLong},
		{chain(201, func(i int) api.Gate { return or(i) }), 0, api.OK},
		{chain(202, func(i int) api.Gate { return or(i) }), 600, api.ErrLong},
		{chain(203, func(i int) api.Gate { return or(i) }), 602, api.ErrLong},
		{circuit(3, x(3), xor(slices.Repeat([]int{0}, 4095)...)), 0, api.OK},
		{circuit(3, x(3), xor(slices.Repeat([]int{0}, 4096)...)), 0, api.ErrLong},
		{circuit(3, x(3), not(0), xor(append(slices.Repeat([]int{1}, 2047), 0)...)), 0, api.OK},
		{circuit(3, x(3), not(0), xor(slices.Repeat([]int{1}, 2048)...)), 0, api.ErrLong},
		{sized(1 << 20), 0, api.ErrLong},
	} {
		text, e := infix.Print(l.c)
		if e != api.OK {
			t.Error("Print", len(l.c.L), e)
		}
		d, at, e := infix.Parse(text, l.c.N)
		if at != l.at || e != l.e || e == api.OK && !same(d, treeForm(l.c)) || e != api.OK && (d.N != 0 || len(d.L) != 0) {
			t.Error(brief(text), len(d.L), at, e)
		}
	}
}

// TestReadWrittenRead has texts that are read, written, read, written and read again.
func TestReadWrittenRead(t *testing.T) { // P8.3
	moved := 0
	formulasOf(rand.New(rand.NewPCG(11, 12)), 10000, func(text string, n int) {
		var l []api.Circuit
		for range 3 {
			c, _, e := infix.Parse(text, n)
			if e == api.ErrLong {
				return
			}
			if e != api.OK {
				t.Error(brief(text), e)
			}
			l = append(l, c)
			if text, e = infix.Print(c); e != api.OK {
				t.Error(len(c.L), e)
			}
		}
		if !same(l[1], l[2]) {
			t.Error(brief(text), l[1], l[2])
		}
		if !same(l[0], l[1]) {
			moved++
		}
	})
	if moved < 100 {
		t.Error("the test is wrong", moved)
	}
}

// assignments returns all assignments of n variables, n at most 6.
func assignments(n int) (l []api.Set) {
	for i := range 1 << n {
		l = append(l, api.Set{uint64(i), 0})
	}
	return l
}

func TestSameFunction(t *testing.T) { // P8.4
	small(func(c api.Circuit) {
		text, _ := infix.Print(c)
		d, _, e := infix.Parse(text, c.N)
		if e != api.OK {
			return
		}
		tree := treeForm(c)
		for _, a := range assignments(c.N) {
			if is := circ.Eval(c, a); circ.Eval(d, a) != is || circ.Eval(tree, a) != is {
				t.Error(c, d, a)
			}
		}
	})
}

// TestMeaning has formulas with their values, by the text.
func TestMeaning(t *testing.T) { // P8.1, P8.4
	for text, want := range map[string]string{ // for the assignments {}, {1}, {2}, {1, 2}, {3}, {1, 3}, {2, 3}, {1, 2, 3}
		"x1 -> x2": "10111011", "x1 <-> x2": "10011001", "x1 ^ x2 ^ x3": "01101001", "x1 & x2 | x3": "00011111", "if(x1, x2, x3)": "00011011",
		"x1 -> x2 -> x3": "11101111", "(x1 -> x2) -> x3": "01001111", "!x1 & x2": "00100010", "!(x1 & x2)": "11101110", "x1 <-> x2 <-> x3": "01101001",
		"x1 | x2 & x3": "01010111", "x1 ^ x2 & x3": "01010110", "x1 | x2 ^ x2": "01010101", "x1 -> x2 | x3": "10111111", "xor() | or()": "00000000", "and() & 1": "11111111",
		"x1 & x2 -> x3": "11101111", "x1 <-> x2 -> x3": "01100101",
	} {
		c, _, e := infix.Parse(text, 3)
		if e != api.OK {
			t.Error(text, e)
		}
		for k, a := range assignments(3) {
			if circ.Eval(c, a) != (want[k] == '1') {
				t.Error(text, a)
			}
		}
	}
}

// withBlanks returns a text with r.IntN(most) blanks before, between and behind its tokens.
func withBlanks(r *rand.Rand, text string, most int) string {
	var b strings.Builder
	for _, m := range marks(text) {
		b.WriteString(strings.Repeat(" ", r.IntN(most)))
		b.WriteString(m.text)
	}
	return b.String() + strings.Repeat(" ", r.IntN(most))
}

func TestBlanks(t *testing.T) { // P8.5
	r := rand.New(rand.NewPCG(13, 14))
	formulasOf(r, 5000, func(text string, n int) {
		want, _, wantE := infix.Parse(text, n)
		for most := 1; most < 5; most++ { // with 1, there are no blanks at all
			more := withBlanks(r, text, most)
			if c, at, e := infix.Parse(more, n); !same(c, want) || e != wantE || e == api.OK && at != 0 {
				t.Errorf("%s, %s: at %d, error %d; want %d", brief(text), brief(more), at, e, wantE)
			}
		}
	})
}

func TestInParentheses(t *testing.T) { // P8.6
	r := rand.New(rand.NewPCG(15, 16))
	formulasOf(r, 5000, func(text string, n int) {
		want, _, wantE := infix.Parse(text, n)
		if wantE != api.OK {
			return
		}
		for _, more := range []string{"(" + text + ")", " ( " + text + " ) ", "((" + text + "))", strings.Repeat("(", 150) + text + strings.Repeat(")", 150)} {
			if c, at, e := infix.Parse(more, n); !same(c, want) || at != 0 || e != api.OK {
				t.Errorf("%s: at %d, error %d", brief(more), at, e)
			}
		}
	})
	deep := strings.Repeat("(", 200) + "x1" + strings.Repeat(")", 200)
	if c, _, e := infix.Parse(deep, 1); e != api.OK || len(c.L) != 1 {
		t.Error("200 parentheses", e)
	}
	if _, at, e := infix.Parse("("+deep+")", 1); e != api.ErrLong || at != 200 {
		t.Error("201 parentheses", at, e)
	}
	wide := "1" + strings.Repeat(" ", 1<<20-2)
	if _, _, e := infix.Parse("("+wide+")", 1); e != api.ErrLong {
		t.Error("above the limit of a text", e)
	}
}

// TestSameResults calls each function several times (R5).
func TestSameResults(t *testing.T) {
	r := rand.New(rand.NewPCG(17, 18))
	for k := range 300 {
		c := randomCircuit(r, 6, 5+k%20)
		text, e := infix.Print(c)
		d, at, parseE := infix.Parse(text, 6)
		for range 5 {
			if again, f := infix.Print(copied(c)); again != text || f != e {
				t.Error("Print", c)
			}
			if again, p, f := infix.Parse(text, 6); !same(again, d) || p != at || f != parseE {
				t.Error("Parse", text)
			}
		}
	}
}
