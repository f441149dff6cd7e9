package dimacs_test

import (
	"fmt"
	"math/rand/v2"
	"strings"
	"testing"

	"census/api"
	"census/dimacs"
)

// brief returns a text for a message.
func brief(s string) string {
	if len(s) > 300 {
		return fmt.Sprintf("%q .. %q (%d bytes)", s[:150], s[len(s)-150:], len(s))
	}
	return fmt.Sprintf("%q", s)
}

// checkParse compares Parse with the definition, and returns its error and whether it is that of a line.
func checkParse(t *testing.T, text string) (api.Errno, bool) {
	t.Helper()
	f, line, e := dimacs.Parse(text)
	g, wantLine, want := parsed(text)
	if !same(f, g) || line != wantLine || e != want {
		t.Errorf("%s: %v line %d error %d; want %v line %d error %d", brief(text), f, line, e, g, wantLine, want)
	}
	return e, line > 0
}

// refused is a text that Parse does not accept.
type refused struct {
	text string // with semicolons for bytes 10
	line int
	e    api.Errno
}

// checkRefused compares the errors of texts with those that are written beside them.
func checkRefused(t *testing.T, l []refused) {
	t.Helper()
	for _, x := range l {
		text := strings.ReplaceAll(x.text, ";", "\n")
		if f, line, e := dimacs.Parse(text); !isZero(f) || line != x.line || e != x.e {
			t.Errorf("%s: %v line %d error %d; want line %d error %d", brief(x.text), f, line, e, x.line, x.e)
		}
		checkParse(t, text)
	}
}

// accepted is a text with its file.
type accepted struct {
	text string // with semicolons for bytes 10
	f    dimacs.File
}

// checkAccepted compares files with those that are written beside their texts.
func checkAccepted(t *testing.T, l []accepted) {
	t.Helper()
	for _, x := range l {
		text := strings.ReplaceAll(x.text, ";", "\n")
		if f, line, e := dimacs.Parse(text); !same(f, x.f) || line != 0 || e != api.OK {
			t.Errorf("%s: %v line %d error %d; want %v", brief(x.text), f, line, e, x.f)
		}
		checkParse(t, text)
	}
}

// theory returns a theory of n variables.
func theory(n int, l ...[]int) api.Theory { return api.Theory{N: n, L: l} }

func TestParseExamples(t *testing.T) { // P6.1
	checkAccepted(t, []accepted{
		{"p cnf 3 2; 1 2 0 -1; 3 0", dimacs.File{T: theory(3, []int{1, 2}, []int{-1, 3})}},
		{"c x; p cnf 2 1; c p show 2 0; c p weight -1 1/2 0; 0",
			dimacs.File{T: theory(2, nil), Show: []int{2}, Weights: []dimacs.Weight{{Lit: -1, Value: "1/2"}}}},
	})
	checkRefused(t, []refused{
		{"1 0", 1, api.ErrForm},
		{"p cnf 1 1; 2 0", 2, api.ErrRange},
		{"p cnf 1 1; 1", 0, api.ErrForm},
		{"", 0, api.ErrNone},
		{"p cnf 1 0; c p weight 1 2/4 0", 2, api.ErrForm},
	})
}

func TestParseFiles(t *testing.T) { // P6.1
	checkAccepted(t, []accepted{
		{"p cnf 0 0", dimacs.File{}},
		{"p cnf 0 2;0 0", dimacs.File{T: theory(0, nil, nil)}},
		{"p cnf 5 0;c p show 0", dimacs.File{T: theory(5)}},
		{"p cnf 2 3;2;;-1;c 0;  2 0 1 -1 0 0;", dimacs.File{T: theory(2, []int{2, -1, 2}, []int{1, -1}, nil)}},
		{"p cnf 1 3;0 0 1;0", dimacs.File{T: theory(1, nil, nil, []int{1})}},
		{"p cnf 4 0;c p show 3 1 0;c p show 0;c p show 4 0", dimacs.File{T: theory(4), Show: []int{3, 1, 4}}},
		{"p cnf 2 1;1;c p show 2 0;c p weight 2 7 0;c p weight -2 0 0;2 0;c p weight 1 1/3 0", dimacs.File{
			T: theory(2, []int{1, 2}), Show: []int{2}, Weights: []dimacs.Weight{{2, "7"}, {-2, "0"}, {1, "1/3"}}}},
		{"p cnf 128 2;128 -128 0;-1 128 1 -128 0;c p weight -128 5 0;c p show 128 0", dimacs.File{
			T: theory(128, []int{128, -128}, []int{-1, 128, 1, -128}), Show: []int{128}, Weights: []dimacs.Weight{{-128, "5"}}}},
	})
}

// TestComments has comments at every place, some of which nearly are lines of another form.
func TestComments(t *testing.T) { // P6.1
	want := dimacs.File{T: theory(2, []int{1, -2}), Show: []int{2}, Weights: []dimacs.Weight{{-1, "3/4"}}}
	lines := []string{"p cnf 2 1", "c p show 2 0", "1", "c p weight -1 3/4 0", "-2 0"}
	for _, c := range []string{"", "   ", "c", " c ", "c x", "c p", "c p ", "c  p  sho w 1 0", "c p shows 3 0", "c p weigh 9", "c p weights 1 x 0",
		"c P show 9", "c p Show 9", "c show 9 0", "c c p show 9 0", "c x p weight 9", "c p cnf 1 1", "c 1 0", "c 0", "c \t", "c p\tshow 9",
		"c \xff\xfe é \x00 \r", "c p show\r 9", "c pp show 9"} {
		for i := range len(lines) + 1 {
			text := strings.Join(lines[:i], "\n") + "\n" + c + "\n" + strings.Join(lines[i:], "\n")
			if f, line, e := dimacs.Parse(text); !same(f, want) || line != 0 || e != api.OK {
				t.Errorf("%q: %v line %d error %d", text, f, line, e)
			}
			checkParse(t, text)
		}
	}
}

// TestForms has lines of no form, after a p line and before one.
func TestForms(t *testing.T) { // P6.1
	for _, l := range []string{"p", "p cnf", "p cnf 1", "p cnf 1 1 1", "p cnf 1 1 0", "p cnf -1 1", "p cnf 1 -1", "p cnf x 1", "p cnf 1 x",
		"p CNF 1 1", "P cnf 1 1", "p cnff 1 1", "p dnf 1 1", "p 1 1", "cnf 1 1", "pcnf 1 1", "p\tcnf 1 1", "p cnf 1 1\r", "p cnf -0 1", "p cnf 1 00",
		"p cnf +1 1", "p cnf 1.0 1", "p cnf 01 1", "p cnf 1 100000", "p cnf 100000 1", "p cnf 18446744073709551617 1", "p cnf \xff 1",
		"c p show", "c p show 1", "c p show 1 0 0", "c p show 0 1", "c p show 0 1 0", "c p show -1 0", "c p show 1 x 0", "c p show 01 0",
		"c p show 1 00", "c p show 1 0 c", "c p show 100000 0", "c p show 1, 2 0", "c p show 1 0\r", "c p show \t 0", "c p show 1 -0",
		"c p weight", "c p weight 1", "c p weight 1 1", "c p weight 1 1 1", "c p weight 1 0", "c p weight 1 1 0 0", "c p weight 0 1 0",
		"c p weight -0 1 0", "c p weight x 1 0", "c p weight 01 1 0", "c p weight +1 1 0", "c p weight 100000 1 0", "c p weight -100000 1 0",
		"c p weight 1 -1 0", "c p weight 1 1.5 0", "c p weight 1 x 0", "c p weight 1 2/4 0", "c p weight 1 1/0 0", "c p weight 1 3/1 0",
		"c p weight 1 1/ 0", "c p weight 1 1 / 2 0", "c p weight 1 01 0", "c p weight 1 1 00", "c p weight 1 1 x", "c p weight 1 1 0\r",
		"c p weight 1 1 2 0", "c p weight 1 " + strings.Repeat("1", 2001) + " 0",
		"x", "cx", "c\t", "\t", "\r", "\x00", "\xff", "é", "-", "--1 0", "+1 0", "1 0 x", "1 x 0", "x 1 0", "1 01 0", "00", "1 -0", "-0", "1 1/2 0",
		"1 0 c", "1 0\r", "1\t0", "1 0%", "%", "1 100000 0", "-100000", "1 1.0 0", "99999999999999999999 0", "1 p cnf", "0x1 0", "1_0 0", "1e1 0"} {
		checkRefused(t, []refused{
			{l, 1, api.ErrForm},
			{"p cnf 1 1;" + l, 2, api.ErrForm},
			{"c;;p cnf 2 1;1 -2;  " + l + "   ;9 0", 5, api.ErrForm},
		})
	}
}

func TestNoProblemLine(t *testing.T) { // P6.1
	for _, l := range []string{"0", "1 0", "-1", "99999", "c p show 0", "c p show 1 0", "c p show 1 1 0", "c p weight 1 1/2 0"} {
		checkRefused(t, []refused{
			{l, 1, api.ErrForm},
			{"c;;  c p;" + l + ";p cnf 1 1;1 0", 4, api.ErrForm},
		})
	}
	checkRefused(t, []refused{
		{";", 0, api.ErrNone},
		{"   ", 0, api.ErrNone},
		{"c;c x;;c p;", 0, api.ErrNone},
		{"c p cnf 1 0", 0, api.ErrNone},
	})
}

func TestTwice(t *testing.T) { // P6.1
	checkRefused(t, []refused{
		{"p cnf 1 0;p cnf 1 0", 2, api.ErrTwice},
		{"p cnf 1 0;;p cnf 129 0", 3, api.ErrTwice},
		{"p cnf 1 0;p cnf 1 4097", 2, api.ErrTwice},
		{"p cnf 1 1;1;p cnf 1 1;0", 3, api.ErrTwice},
		{"p cnf 0 0;p cnf 0 0", 2, api.ErrTwice},
		{"p cnf 2 0;c p show 2 1 2 0", 2, api.ErrTwice},
		{"p cnf 2 0;c p show 2 0;c p show 1 0;c p show 2 0", 4, api.ErrTwice},
		{"p cnf 128 0;c p show 128 128 0", 2, api.ErrTwice},
		{"p cnf 2 0;c p weight 2 1 0;c p weight -2 1 0;c p weight 2 1 0", 4, api.ErrTwice},
		{"p cnf 2 0;c p weight -2 1 0;c p weight 2 1 0;c p weight 1 1 0;c p weight -2 1/2 0", 5, api.ErrTwice},
	})
	checkAccepted(t, []accepted{
		{"p cnf 2 0;c p show 1 0;c p weight 1 1 0;c p show 2 0;c p weight -1 1 0", dimacs.File{
			T: theory(2), Show: []int{1, 2}, Weights: []dimacs.Weight{{1, "1"}, {-1, "1"}}}},
	})
}

func TestRange(t *testing.T) { // P6.1
	var l []refused
	for _, n := range []int{0, 1, 2, 63, 64, 65, 127, 128} {
		for _, v := range []int{n + 1, n + 2, 129, 256 + 1, 32769, 65537, 99999} {
			p := fmt.Sprintf("p cnf %d 1;", n)
			l = append(l,
				refused{fmt.Sprintf("%s%d 0", p, v), 2, api.ErrRange},
				refused{fmt.Sprintf("%s-%d 0", p, v), 2, api.ErrRange},
				refused{fmt.Sprintf("%sc p show %d 0", p, v), 2, api.ErrRange},
				refused{fmt.Sprintf("%sc p weight %d 1 0", p, v), 2, api.ErrRange},
				refused{fmt.Sprintf("%sc p weight -%d 1 0", p, v), 2, api.ErrRange})
		}
	}
	for _, n := range []int{129, 130, 256, 4096, 65536, 99999} {
		l = append(l, refused{fmt.Sprintf("p cnf %d 0", n), 1, api.ErrRange}, refused{fmt.Sprintf("p cnf %d 4097", n), 1, api.ErrRange})
	}
	for _, m := range []int{4097, 8192, 65536, 99999} {
		l = append(l, refused{fmt.Sprintf("p cnf 128 %d;;x", m), 1, api.ErrRange}, refused{fmt.Sprintf("c;p cnf 0 %d", m), 2, api.ErrRange})
	}
	checkRefused(t, l)
}

// TestFirstError has lines and texts with several faults.
func TestFirstError(t *testing.T) { // P6.1
	long := strings.Repeat("1 ", 128)
	checkRefused(t, []refused{
		{"p cnf 2 0;c p show 3 1 1 0", 2, api.ErrRange},
		{"p cnf 2 0;c p show 1 1 3 0", 2, api.ErrTwice},
		{"p cnf 2 0;c p show 1 1 3 x 0", 2, api.ErrForm},
		{"p cnf 2 0;c p show 3 3", 2, api.ErrForm},
		{"p cnf 2 0;c p weight 3 x 0", 2, api.ErrForm},
		{"p cnf 2 0;c p weight 1 1 0;c p weight 1 2/4 0", 3, api.ErrForm},
		{"p cnf 2 0;c p weight 1 1 0;c p weight 1 1 0 0", 3, api.ErrForm},
		{"p cnf 2 0;p cnf 2", 2, api.ErrForm},
		{"p cnf 2 0;p cnf 129 x", 2, api.ErrForm},
		{"p cnf 129 x", 1, api.ErrForm},
		{"p cnf 129 4097 0", 1, api.ErrForm},
		{"p cnf 2 1;3 x", 2, api.ErrForm},
		{"p cnf 2 1;3 0 00", 2, api.ErrForm},
		{"p cnf 2 1;" + long + "1 3 0", 2, api.ErrLong},
		{"p cnf 2 1;" + long + "3 1 0", 2, api.ErrRange},
		{"p cnf 2 1;3 " + long + "1 0", 2, api.ErrRange},
		{"p cnf 2 1;" + long + "1 x 0", 2, api.ErrForm},
		{"p cnf 2 1;" + long + ";c;1 3", 4, api.ErrLong},
		{"p cnf 2 1;" + long + ";3 1", 3, api.ErrRange},
		{"p cnf 2 9;3 0;x", 2, api.ErrRange},
		{"p cnf 2 9;x;3 0", 2, api.ErrForm},
		{"p cnf 2 9;1 0;c p show 1 1 0;p cnf 1 1", 3, api.ErrTwice},
		{"x;", 1, api.ErrForm},
	})
}

// TestEnd has texts of which no line is wrong.
func TestEnd(t *testing.T) { // P6.1
	checkRefused(t, []refused{
		{"p cnf 1 1", 0, api.ErrForm},
		{"p cnf 1 1;", 0, api.ErrForm},
		{"p cnf 1 0;0", 0, api.ErrForm},
		{"p cnf 1 1;0 0", 0, api.ErrForm},
		{"p cnf 1 2;1 0", 0, api.ErrForm},
		{"p cnf 1 1;1 0 -1", 0, api.ErrForm},
		{"p cnf 1 2;1 0 -1", 0, api.ErrForm},
		{"p cnf 1 0;1", 0, api.ErrForm},
		{"p cnf 1 1;1;c;", 0, api.ErrForm},
		{"p cnf 1 4096;" + strings.Repeat("0 ", 4095), 0, api.ErrForm},
		{"p cnf 1 4096;" + strings.Repeat("0 ", 4097), 0, api.ErrForm},
		{"p cnf 1 0;" + strings.Repeat("0 ", 65536), 0, api.ErrForm},
	})
}

// TestLongClauses has clauses at the limit, in one line or in several.
func TestLongClauses(t *testing.T) { // P6.1
	for _, by := range []int{1, 3, 64, 127, 128, 200} {
		for _, n := range []int{127, 128, 129, 300} {
			var b strings.Builder
			b.WriteString("p cnf 2 3\n0 1 0")
			for i := range n {
				if i%by == 0 {
					b.WriteString("\nc\n")
				}
				b.WriteString("-2 ")
			}
			text := b.String() + "\n0"
			e, inLine := checkParse(t, text)
			if want := map[bool]api.Errno{false: api.OK, true: api.ErrLong}[n > 128]; e != want || inLine != (n > 128) {
				t.Error(n, by, e, inLine)
			}
		}
	}
}

// TestLimits has texts that are as large as they may be, and larger ones.
func TestLimits(t *testing.T) { // P6.1
	const most = 1048576
	start := "p cnf 128 4096\n" + strings.Repeat("128 -128 0\n", 4096)
	f, line, e := dimacs.Parse(start)
	if line != 0 || e != api.OK || f.T.N != 128 || len(f.T.L) != 4096 {
		t.Error(line, e, f.T.N, len(f.T.L))
	}
	fills := []func(n int) string{
		func(n int) string { return strings.Repeat(" ", n) },
		func(n int) string { return strings.Repeat("\n", n) },
		func(n int) string { return "c " + strings.Repeat("x", n-2) },
		func(n int) string { return strings.Repeat("c\n", n/2) + strings.Repeat(" ", n%2) },
		func(n int) string { return strings.Repeat("c p show 0\n", n/11) + strings.Repeat("\n", n%11) },
	}
	for i, fill := range fills {
		for _, n := range []int{most - 1, most} {
			if g, line, e := dimacs.Parse(start + fill(n-len(start))); line != 0 || e != api.OK || !same(f, g) {
				t.Error(i, n, line, e)
			}
		}
		for _, n := range []int{most + 1, most + 2} {
			if g, line, e := dimacs.Parse(start + fill(n-len(start))); line != 0 || e != api.ErrLong || !isZero(g) {
				t.Error(i, n, line, e)
			}
		}
	}
	for _, s := range []string{"x", "\n", " ", "0 ", "1", "c", "p cnf 1 1\n", "9"} {
		for _, n := range []int{most + 1, 2 * most} {
			if f, line, e := dimacs.Parse(strings.Repeat(s, n/len(s)+1)); line != 0 || e != api.ErrLong || !isZero(f) {
				t.Errorf("%q: line %d error %d", s, line, e)
			}
		}
		checkParse(t, strings.Repeat(s, most/len(s)))
		checkParse(t, "p cnf 1 1\n"+strings.Repeat(s, most/len(s)-20))
	}
}

// TestRandomTexts compares Parse with the definition for texts of many kinds, and has enough of each kind.
func TestRandomTexts(t *testing.T) { // P6.1
	type outcome struct {
		e      api.Errno
		inLine bool
	}
	found := map[outcome]int{}
	r := rand.New(rand.NewPCG(1, 2))
	for range 30000 {
		e, inLine := checkParse(t, randomText(r))
		found[outcome{e, inLine}]++
	}
	for _, o := range []outcome{{api.OK, false}, {api.ErrForm, true}, {api.ErrForm, false}, {api.ErrTwice, true}, {api.ErrRange, true},
		{api.ErrLong, true}, {api.ErrNone, false}} {
		if found[o] < 30 {
			t.Error("too few texts of a kind", o, found)
		}
	}
}
