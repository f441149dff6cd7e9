package dimacs_test

import (
	"math/rand/v2"
	"slices"
	"strings"
	"testing"

	"census/api"
	"census/dimacs"
)

// checkBack tells that Parse of the text of f is f.
func checkBack(t *testing.T, f dimacs.File) {
	t.Helper()
	text, e := dimacs.Print(f)
	if e != api.OK {
		t.Error("Print", f.T.N, len(f.T.L), e)
	}
	if g, line, e := dimacs.Parse(text); !same(f, g) || line != 0 || e != api.OK {
		t.Errorf("%s: line %d error %d", brief(text), line, e)
	}
}

func TestBack(t *testing.T) { // P6.3
	checkBack(t, dimacs.File{})
	checkBack(t, sized(1048575))
	checkBack(t, sized(1048576))
	all := dimacs.File{T: theory(128, make([][]int, 4096)...)}
	for v := 1; v <= 128; v++ {
		all.Show = append(all.Show, 129-v)
		all.Weights = append(all.Weights, dimacs.Weight{Lit: v, Value: "0"}, dimacs.Weight{Lit: -v, Value: "1"})
	}
	checkBack(t, all)
	r := rand.New(rand.NewPCG(5, 6))
	for range 5000 {
		checkBack(t, randomFile(r))
	}
}

func TestOneText(t *testing.T) { // P6.4
	r := rand.New(rand.NewPCG(7, 8))
	files := 0
	for range 10000 {
		text := randomText(r)
		f, _, e := dimacs.Parse(text)
		if e != api.OK {
			continue
		}
		files++
		checkBack(t, f)
		short, _ := dimacs.Print(f)
		g, _, _ := dimacs.Parse(short)
		if again, e := dimacs.Print(g); again != short || e != api.OK {
			t.Errorf("%q: %q error %d", text, again, e)
		}
	}
	if files < 1000 {
		t.Error("too few files", files)
	}
}

// TestOneTextTooLong has a text at the limit that lacks the byte 10 at the end, which Print adds.
func TestOneTextTooLong(t *testing.T) { // P6.4
	want := sized(1048577)
	f, line, e := dimacs.Parse(strings.TrimSuffix(printed(want), "\n"))
	if !same(f, want) || line != 0 || e != api.OK {
		t.Error(line, e)
	}
	if text, e := dimacs.Print(f); text != "" || e != api.ErrLong {
		t.Error(len(text), e)
	}
}

// stretched returns a text with more blanks, empty lines and comments, and the number of each line of s in it.
func stretched(r *rand.Rand, s string) (text string, at []int) {
	var lines []string
	more := []string{"", " ", "c", "  c", "c p", "c 1 0", "c p cnf 1 1", "c x p show 1 0"}
	add := func() {
		for range max(r.IntN(6)-3, 0) {
			lines = append(lines, more[r.IntN(len(more))])
		}
	}
	for _, line := range strings.Split(s, "\n") {
		add()
		lines = append(lines, spaced(r, wordsOf(line)))
		at = append(at, len(lines))
	}
	add()
	return strings.Join(lines, "\n"), at
}

func TestBlanks(t *testing.T) { // P6.5
	r := rand.New(rand.NewPCG(9, 10))
	check := func(s, text string, at func(line int) int) {
		f, line, e := dimacs.Parse(s)
		g, moved, d := dimacs.Parse(text)
		if !same(f, g) || e != d || moved != at(line) {
			t.Errorf("%s: line %d error %d; %s: line %d error %d", brief(s), line, e, brief(text), moved, d)
		}
	}
	for range 10000 {
		s := randomText(r)
		text, at := stretched(r, s)
		check(s, text, func(line int) int {
			if line == 0 {
				return 0
			}
			return at[line-1]
		})
		unmoved := func(line int) int { return line }
		check(s, s+"\n", unmoved)
		check(s, strings.TrimSuffix(s, "\n"), unmoved)
		check(s, strings.TrimRight(s, "\n"), unmoved)
	}
}

// TestMemory changes results: no other part of them, and no later result, changes (R1, R5).
func TestMemory(t *testing.T) {
	text := "p cnf 3 4\nc p show 3 0\nc p show 1 0\nc p weight -2 1/2 0\nc p weight 2 1/2 0\n1 2 0 0 -3 0\n3 2 1\n0"
	want := dimacs.File{T: theory(3, []int{1, 2}, nil, []int{-3}, []int{3, 2, 1}), Show: []int{3, 1},
		Weights: []dimacs.Weight{{-2, "1/2"}, {2, "1/2"}}}
	for range 3 {
		f, _, e := dimacs.Parse(text)
		if !same(f, want) || e != api.OK {
			t.Fatal(f, e)
		}
		for i, c := range f.T.L {
			before := copied(f)
			_ = append(c, 7, 7, 7, 7)
			for k := range c {
				c[k] = 9
			}
			before.T.L[i] = slices.Clone(c)
			if !same(f, before) {
				t.Fatal(i, f, before)
			}
		}
		_ = append(f.Show, 7, 7)
		f.Show[0], f.Weights[1], f.T.L[1] = 8, dimacs.Weight{}, []int{5}
	}
	short, e := dimacs.Print(want)
	for range 3 {
		if again, d := dimacs.Print(want); again != short || d != e {
			t.Error(again, d)
		}
	}
}
