package dimacs_test

import (
	"math"
	"math/rand/v2"
	"slices"
	"strings"
	"testing"

	"census/api"
	"census/dimacs"
)

// checkPrint compares Print with the definition.
func checkPrint(t *testing.T, f dimacs.File, want api.Errno) {
	t.Helper()
	before := copied(f)
	got, e := dimacs.Print(f)
	text := ""
	if want == api.OK {
		text = printed(f)
	}
	if e != want || got != text {
		t.Errorf("%d variables, %d clauses, %v, %v: %s error %d; want %s error %d",
			f.T.N, len(f.T.L), f.Show, f.Weights, brief(got), e, brief(text), want)
	}
	if !same(f, before) {
		t.Error("the argument has changed", before)
	}
}

func TestPrintExamples(t *testing.T) { // P6.2
	for _, x := range []struct {
		f    dimacs.File
		text string
	}{
		{dimacs.File{}, "p cnf 0 0\n"},
		{dimacs.File{T: api.Theory{L: [][]int{}}, Show: []int{}, Weights: []dimacs.Weight{}}, "p cnf 0 0\n"},
		{dimacs.File{T: theory(0, nil, []int{})}, "p cnf 0 2\n0\n0\n"},
		{dimacs.File{T: theory(3, []int{1, 2}, []int{-1, 3})}, "p cnf 3 2\n1 2 0\n-1 3 0\n"},
		{dimacs.File{T: theory(2, nil), Show: []int{2}, Weights: []dimacs.Weight{{-1, "1/2"}}},
			"p cnf 2 1\nc p show 2 0\nc p weight -1 1/2 0\n0\n"},
		{dimacs.File{T: theory(128, []int{128, -128, 128}), Show: []int{128, 1, 64}, Weights: []dimacs.Weight{{128, "0"}, {-128, "7"}, {1, "2/3"}}},
			"p cnf 128 1\nc p show 128 1 64 0\nc p weight 128 0 0\nc p weight -128 7 0\nc p weight 1 2/3 0\n128 -128 128 0\n"},
	} {
		checkPrint(t, x.f, api.OK)
		if got, e := dimacs.Print(x.f); got != x.text || e != api.OK {
			t.Errorf("%v: %q error %d", x.f, got, e)
		}
	}
}

func TestRandomFiles(t *testing.T) { // P6.2
	r := rand.New(rand.NewPCG(3, 4))
	for range 5000 {
		checkPrint(t, randomFile(r), api.OK)
	}
}

// wrongFile is a file that is not valid, and the first thing that is wrong with it.
type wrongFile struct {
	f dimacs.File
	e api.Errno
}

// checkWrong compares the errors of Print with those that are written beside the files.
func checkWrong(t *testing.T, l []wrongFile) {
	t.Helper()
	for _, w := range l {
		if fault(w.f) != w.e {
			t.Fatal("the test is wrong", w)
		}
		checkPrint(t, w.f, w.e)
	}
}

func TestPrintWrongTheory(t *testing.T) { // P6.2
	long := slices.Repeat([]int{1}, 129)
	l := []wrongFile{
		{dimacs.File{T: theory(2, []int{1}, []int{3}, long)}, api.ErrArg},
		{dimacs.File{T: theory(2, []int{1, 0, 2})}, api.ErrArg},
		{dimacs.File{T: theory(2, long, []int{0})}, api.ErrLong},
		{dimacs.File{T: theory(2, slices.Repeat([][]int{{1}}, 4097)...)}, api.ErrLong},
	}
	for _, n := range []int{-1, 129, math.MinInt, math.MaxInt, 1 << 32, -256, 256 + 1} {
		l = append(l, wrongFile{dimacs.File{T: theory(n)}, api.ErrRange})
	}
	for i := range l {
		l = append(l, l[i], l[i])
		l[len(l)-2].f.Show = []int{1, 1, 9}
		l[len(l)-1].f.Weights = []dimacs.Weight{{9, "x"}, {1, "x"}}
	}
	checkWrong(t, l)
}

func TestPrintWrongShow(t *testing.T) { // P6.2
	var l []wrongFile
	for _, n := range []int{0, 1, 2, 64, 127, 128} {
		for _, v := range []int{0, -1, -n, -n - 1, n + 1, 129, -128, 256 + 1, 65537, 1<<32 + 1, math.MinInt, math.MinInt + 1, math.MaxInt} {
			l = append(l, wrongFile{dimacs.File{T: theory(n), Show: []int{v}}, api.ErrRange})
			if n > 0 {
				l = append(l, wrongFile{dimacs.File{T: theory(n), Show: []int{n, v, n}}, api.ErrRange})
				l = append(l, wrongFile{dimacs.File{T: theory(n), Show: []int{n, n, v}}, api.ErrTwice})
			}
		}
	}
	l = append(l,
		wrongFile{dimacs.File{T: theory(3), Show: []int{1, 2, 3, 1}}, api.ErrTwice},
		wrongFile{dimacs.File{T: theory(3), Show: []int{1, 2, 3, 4}, Weights: []dimacs.Weight{{1, "x"}}}, api.ErrRange},
		wrongFile{dimacs.File{T: theory(3), Show: []int{3, 2, 3}, Weights: []dimacs.Weight{{4, "1"}}}, api.ErrTwice},
		wrongFile{dimacs.File{T: theory(128), Show: slices.Repeat([]int{7}, 1<<20)}, api.ErrTwice})
	checkWrong(t, l)
}

func TestPrintWrongWeights(t *testing.T) { // P6.2
	var l []wrongFile
	add := func(e api.Errno, n int, w ...dimacs.Weight) {
		l = append(l, wrongFile{dimacs.File{T: theory(n), Show: []int{}, Weights: w}, e})
	}
	for _, n := range []int{0, 1, 2, 64, 127, 128} {
		for _, x := range []int{0, n + 1, -n - 1, 129, -129, 256 + 1, -65537, 1<<32 + 1, -1<<32 - 1, math.MinInt, math.MinInt + 1, math.MaxInt} {
			add(api.ErrRange, n, dimacs.Weight{Lit: x, Value: "1"})
			add(api.ErrRange, n, dimacs.Weight{Lit: x, Value: "x"})
			if n > 0 {
				add(api.ErrRange, n, dimacs.Weight{Lit: n, Value: "1"}, dimacs.Weight{Lit: x, Value: "1"}, dimacs.Weight{Lit: n, Value: "1"})
				add(api.ErrTwice, n, dimacs.Weight{Lit: n, Value: "1"}, dimacs.Weight{Lit: n, Value: "1"}, dimacs.Weight{Lit: x, Value: "1"})
				add(api.ErrForm, n, dimacs.Weight{Lit: n, Value: "1"}, dimacs.Weight{Lit: -n, Value: "01"}, dimacs.Weight{Lit: x, Value: "1"})
			}
		}
	}
	add(api.ErrTwice, 2, dimacs.Weight{Lit: -2, Value: "1"}, dimacs.Weight{Lit: 2, Value: "1"}, dimacs.Weight{Lit: -2, Value: "x"})
	add(api.ErrTwice, 2, slices.Repeat([]dimacs.Weight{{Lit: -2, Value: "1"}}, 1<<16)...)
	for _, s := range []string{"", " ", "x", "01", "+1", "-1", "1.5", "2/4", "1/0", "3/1", "0/2", "1/", "/2", "1/2/3", "1 ", " 1", "1/ 2", "1\n", "1\x00",
		"½", strings.Repeat("1", 2001), "1/" + strings.Repeat("3", 2001), strings.Repeat("9", 1<<20+1)} {
		add(api.ErrForm, 1, dimacs.Weight{Lit: 1, Value: s})
		add(api.ErrForm, 3, dimacs.Weight{Lit: 3, Value: "0"}, dimacs.Weight{Lit: -3, Value: s}, dimacs.Weight{Lit: -3, Value: s})
	}
	checkWrong(t, l)
}

// sized returns a file whose text has n bytes, where n is at most about a million.
func sized(n int) dimacs.File {
	f := dimacs.File{T: api.Theory{N: 128, L: make([][]int, 2000)}, Show: []int{5}, Weights: []dimacs.Weight{{-5, "3/7"}}}
	rest := n - len(printed(f))
	for i := range f.T.L {
		for len(f.T.L[i]) < 128 && rest > 0 {
			x := map[int]int{2: 1, 3: -1, 4: -10, 5: -100, 6: -1}[min(rest, 7)]
			if x == 0 {
				x = -128
			}
			f.T.L[i] = append(f.T.L[i], x)
			rest -= map[int]int{1: 2, -1: 3, -10: 4, -100: 5, -128: 5}[x]
		}
	}
	return f
}

func TestPrintLong(t *testing.T) { // P6.2
	const most = 1048576
	for n := most - 5; n <= most+5; n++ {
		f := sized(n)
		text := printed(f)
		if len(text) != n || fault(f) != api.OK {
			t.Fatal("the test is wrong", n, len(text))
		}
		got, e := dimacs.Print(f)
		if n <= most && (got != text || e != api.OK) || n > most && (got != "" || e != api.ErrLong) {
			t.Error(n, len(got), e)
		}
	}
	full := dimacs.File{T: theory(128, slices.Repeat([][]int{slices.Repeat([]int{-128}, 128)}, 4096)...)}
	if got, e := dimacs.Print(full); got != "" || e != api.ErrLong {
		t.Error(len(got), e)
	}
	full.Show = []int{1, 1}
	if got, e := dimacs.Print(full); got != "" || e != api.ErrTwice {
		t.Error(len(got), e)
	}
	heavy := dimacs.File{T: theory(128)}
	for v := 1; v <= 128; v++ {
		digits := strings.Repeat("7", 2000)
		heavy.Weights = append(heavy.Weights, dimacs.Weight{Lit: v, Value: "9" + digits[1:] + "/1" + digits[1:]}, dimacs.Weight{Lit: -v, Value: digits})
	}
	checkPrint(t, heavy, fault(heavy))
}
