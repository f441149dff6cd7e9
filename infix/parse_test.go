package infix_test

import (
	"fmt"
	"math/rand/v2"
	"strconv"
	"strings"
	"testing"

	"census/api"
	"census/infix"
)

// brief returns a text for a message.
func brief(s string) string {
	if len(s) > 300 {
		return fmt.Sprintf("%q .. %q (%d bytes)", s[:150], s[len(s)-150:], len(s))
	}
	return fmt.Sprintf("%q", s)
}

// checkParse compares Parse with the definition, and returns its error.
func checkParse(t *testing.T, text string, n int) api.Errno {
	t.Helper()
	c, at, e := infix.Parse(text, n)
	d, wantAt, want := parsed(text, n)
	if !same(c, d) || at != wantAt || e != want {
		t.Errorf("%s, %d: %d gates, at %d, error %d; want %d gates, at %d, error %d", brief(text), n, len(c.L), at, e, len(d.L), wantAt, want)
	}
	return e
}

// accepted is a text with its gates.
type accepted struct {
	text string
	l    []api.Gate
}

// checkAccepted compares circuits of nine variables with those that are written beside their texts.
func checkAccepted(t *testing.T, l []accepted) {
	t.Helper()
	for _, a := range l {
		if c, at, e := infix.Parse(a.text, 9); !same(c, circuit(9, a.l...)) || at != 0 || e != api.OK {
			t.Errorf("%q: %v, at %d, error %d; want %v", a.text, c, at, e, a.l)
		}
		checkParse(t, a.text, 9)
	}
}

// refused is a text that is not accepted, with its error.
type refused struct {
	text string
	at   int
	e    api.Errno
}

// checkRefused compares errors, with nine variables, with those that are written beside the texts.
func checkRefused(t *testing.T, l []refused) {
	t.Helper()
	for _, x := range l {
		if c, at, e := infix.Parse(x.text, 9); c.N != 0 || len(c.L) != 0 || at != x.at || e != x.e {
			t.Errorf("%s: %d gates, at %d, error %d; want at %d, error %d", brief(x.text), len(c.L), at, e, x.at, x.e)
		}
		checkParse(t, x.text, 9)
	}
}

func TestParseExamples(t *testing.T) { // P8.1
	checkAccepted(t, []accepted{
		{"x1 & !x2 | x3", []api.Gate{x(1), x(-2), and(0, 1), x(3), or(2, 3)}},
		{"!(x1)", []api.Gate{x(1), not(0)}},
		{"!!x1", []api.Gate{x(-1), not(0)}},
		{"x1 -> x2", []api.Gate{x(1), x(2), not(0), or(2, 1)}},
		{"and()", []api.Gate{and()}},
		{"x1 & (x2 & x3)", []api.Gate{x(1), x(2), x(3), and(1, 2), and(0, 3)}},
		{"x1 & (x2 | !x3)", []api.Gate{x(1), x(2), x(-3), or(1, 2), and(0, 3)}}, // example 5 of the whole
	})
	checkRefused(t, []refused{
		{"", 0, api.ErrForm},
		{"x1 x2", 3, api.ErrForm},
		{"x0", 0, api.ErrForm},
		{"x10", 0, api.ErrForm},
		{"x1 &", 4, api.ErrForm},
		{"(x1", 3, api.ErrForm},
		{"if(x1, x2)", 9, api.ErrForm},
		{"x1 $", 3, api.ErrForm},
	})
}

// TestParseLevels has formulas of each level, alone, several in a row, and beside those of the other levels.
func TestParseLevels(t *testing.T) { // P8.1
	abc := func(l ...api.Gate) []api.Gate { return append([]api.Gate{x(1), x(2), x(3)}, l...) }
	checkAccepted(t, []accepted{
		{"x9", []api.Gate{x(9)}},
		{"0", []api.Gate{no}},
		{"1", []api.Gate{yes}},
		{"!x9", []api.Gate{x(-9)}},
		{"! x9", []api.Gate{x(-9)}},
		{"!0", []api.Gate{no, not(0)}},
		{"!!!x1", []api.Gate{x(-1), not(0), not(1)}},
		{"!(!x1)", []api.Gate{x(-1), not(0)}},
		{"!((x1))", []api.Gate{x(1), not(0)}},
		{"!and(x1)", []api.Gate{x(1), and(0), not(1)}},
		{"((x1))", []api.Gate{x(1)}},
		{"x1 & x2 & x3", abc(and(0, 1, 2))},
		{"x1 ^ x2 ^ x3", abc(xor(0, 1, 2))},
		{"x1 | x2 | x3", abc(or(0, 1, 2))},
		{"x1 -> x2 -> x3", abc(not(1), or(3, 2), not(0), or(5, 4))},
		{"(x1 -> x2) -> x3", []api.Gate{x(1), x(2), not(0), or(2, 1), x(3), not(3), or(5, 4)}},
		{"x1 <-> x2 <-> x3", []api.Gate{x(1), x(2), iff(0, 1), x(3), iff(2, 3)}},
		{"x1 <-> (x2 <-> x3)", abc(iff(1, 2), iff(0, 3))},
		{"(x1 & x2) & x3", []api.Gate{x(1), x(2), and(0, 1), x(3), and(2, 3)}},
		{"x1 ^ x2 & x3", abc(and(1, 2), xor(0, 3))},
		{"x1 & x2 ^ x3", []api.Gate{x(1), x(2), and(0, 1), x(3), xor(2, 3)}},
		{"(x1 ^ x2) & x3", []api.Gate{x(1), x(2), xor(0, 1), x(3), and(2, 3)}},
		{"x1 | x2 ^ x3", abc(xor(1, 2), or(0, 3))},
		{"x1 ^ x2 | x3", []api.Gate{x(1), x(2), xor(0, 1), x(3), or(2, 3)}},
		{"x1 -> x2 | x3", abc(or(1, 2), not(0), or(4, 3))},
		{"x1 | x2 -> x3", []api.Gate{x(1), x(2), or(0, 1), x(3), not(2), or(4, 3)}},
		{"x1 <-> x2 -> x3", abc(not(1), or(3, 2), iff(0, 4))},
		{"x1 -> x2 <-> x3", []api.Gate{x(1), x(2), not(0), or(2, 1), x(3), iff(3, 4)}},
		{"!x1 & x2", []api.Gate{x(-1), x(2), and(0, 1)}},
		{"!(x1 & x2)", []api.Gate{x(1), x(2), and(0, 1), not(2)}},
		{"x1 & x1", []api.Gate{x(1), x(1), and(0, 1)}},
		{"0 & 1 | 0", []api.Gate{no, yes, and(0, 1), no, or(2, 3)}},
	})
}

func TestParseNames(t *testing.T) { // P8.1
	checkAccepted(t, []accepted{
		{"or()", []api.Gate{or()}},
		{"xor ( )", []api.Gate{xor()}},
		{"and(x1)", []api.Gate{x(1), and(0)}},
		{"or(x1)", []api.Gate{x(1), or(0)}},
		{"xor(x1)", []api.Gate{x(1), xor(0)}},
		{"and(x1, x2)", []api.Gate{x(1), x(2), and(0, 1)}},
		{"or(x1,x2,x3,0)", []api.Gate{x(1), x(2), x(3), no, or(0, 1, 2, 3)}},
		{"if(x1, x2, x3)", []api.Gate{x(1), x(2), x(3), cond(0, 1, 2)}},
		{"if(x1 <-> x2, x1 -> x2, xor())", []api.Gate{x(1), x(2), iff(0, 1), x(1), x(2), not(3), or(5, 4), xor(), cond(2, 6, 7)}},
		{"xor(x1 & x2, and(or(), x3))", []api.Gate{x(1), x(2), and(0, 1), or(), x(3), and(3, 4), xor(2, 5)}},
		{"and(x1) & or(x2)", []api.Gate{x(1), and(0), x(2), or(2), and(1, 3)}},
	})
	checkRefused(t, []refused{
		{"and", 3, api.ErrForm},
		{"and x1", 4, api.ErrForm},
		{"if", 2, api.ErrForm},
		{"and(", 4, api.ErrForm},
		{"and(,", 4, api.ErrForm},
		{"and(x1,)", 7, api.ErrForm},
		{"and(x1 x2)", 7, api.ErrForm},
		{"and(x1", 6, api.ErrForm},
		{"and(x1,,", 7, api.ErrForm},
		{"and()()", 5, api.ErrForm},
		{"if()", 3, api.ErrForm},
		{"if(x1)", 5, api.ErrForm},
		{"if(x1, x2, x3, x4)", 13, api.ErrForm},
		{"if(x1, x2, x3,)", 13, api.ErrForm},
		{"if(x1, x2, )", 11, api.ErrForm},
		{"(x1, x2)", 3, api.ErrForm},
		{"()", 1, api.ErrForm},
		{"x1, x2", 2, api.ErrForm},
		{"and(or, x1)", 6, api.ErrForm},
		{"not(x1)", 0, api.ErrForm},
		{"iff(x1, x2)", 0, api.ErrForm},
		{"AND(x1)", 0, api.ErrForm},
	})
}

// TestParseForms has texts that are wrong at some token, whatever follows it.
func TestParseForms(t *testing.T) { // P8.1
	for _, l := range []struct {
		text string
		at   int
	}{
		{")", 0}, {"&", 0}, {"-> x1", 0}, {",", 0}, {"x", 0}, {"x00", 0}, {"x01", 0}, {"x1x2", 0}, {"x1and", 0},
		{"1x", 0}, {"2", 0}, {"00", 0}, {"01", 0}, {"10", 0}, {"x1 & & x2", 5}, {"x1 & )", 5}, {"x1)", 2}, {"x1 (x2)", 3},
		{"x1 !x2", 3}, {"x1 and()", 3}, {"x1 0", 3}, {"!", 1}, {"! & x1", 2}, {"!)", 1}, {"(x1))", 4}, {"((x1)", 5},
		{"x1 - x2", 3}, {"x1 - > x2", 3}, {"x1 < -> x2", 3}, {"x1 <- > x2", 3}, {"x1 <- x2", 3}, {"x1 = x2", 3},
		{"x1 -->", 3}, {"x1 <<->", 3}, {"x1 ->-> x2", 5}, {"x1 <->-> x2", 6}, {"x1 && x2", 4}, {"x1 || x2", 4},
		{"\tx1", 0}, {"x1\n", 2}, {"x1 \r", 3}, {"X1", 0}, {"x1 & X2", 5}, {"x 1", 0}, {"x-1", 0}, {"x+1", 0}, {"x1_", 2},
		{"é", 0}, {"x1 & é", 5}, {"x1\x00", 2}, {"  ", 2}, {"  x1  &  ", 9}, {"x1 &  $", 6}, {"  x11", 2}, {"!x11", 1}, {"x1 x11", 3},
	} {
		tails := []string{"", " ", " x1", " $", ")", " & x2", " $ (", strings.Repeat("(", 300)}
		if l.at == len(l.text) {
			tails = tails[:1]
		}
		for _, tail := range tails {
			checkRefused(t, []refused{{l.text + tail, l.at, api.ErrForm}})
		}
	}
}

// TestParseVariables has each number of variables, and numbers beside them.
func TestParseVariables(t *testing.T) { // P8.1
	far := []string{"129", "256", "257", "65537", "4294967297", "9223372036854775808", "18446744073709551617", "18446744073709551616", strings.Repeat("1", 400), "1" + strings.Repeat("0", 100)}
	for n := range 129 {
		for v := range 131 {
			far = append(far[:10], strconv.Itoa(v), "0"+strconv.Itoa(v))
			for _, digits := range far {
				ok := digits == strconv.Itoa(v) && v >= 1 && v <= n
				for sign, before := range []string{"", "!"} {
					c, at, e := infix.Parse(before+"x"+digits, n)
					if ok && (!same(c, circuit(n, x(v*(1-2*sign)))) || at != 0 || e != api.OK) {
						t.Error("a variable", n, digits, c, at, e)
					}
					if !ok && (c.N != 0 || len(c.L) != 0 || at != sign || e != api.ErrForm) {
						t.Error("no variable", n, digits, c, at, e)
					}
				}
			}
		}
	}
}

// TestParseBytes has each byte before, between and behind tokens.
func TestParseBytes(t *testing.T) { // P8.1
	for b := range 256 {
		s := string([]byte{byte(b)})
		for _, text := range []string{s, s + s, " " + s, "x1" + s, "x1 " + s, "x1 " + s + " x2", "x1 " + s + s + " x2", "x1 & " + s, "(" + s + ")", "!" + s + "x1", "x" + s,
			"x" + s + "1", s + "x1", "and" + s + "(x1)", "and(x1 " + s + " x2)", "x1 -" + s + " x2", "x1 <" + s + " x2", "x1 <-" + s + " x2", "x1 " + s + "-> x2", "x1 " + s + "> x2"} {
			checkParse(t, text, 9)
		}
	}
}

// TestParseTokens has all rows of some tokens, as far as each begins with what continues a formula.
func TestParseTokens(t *testing.T) { // P8.1
	l := []string{"x1", "x3", "0", "!", "&", "^", "|", "->", "<->", "(", ")", ",", "and", "xor", "if", "$"}
	counts := map[api.Errno]int{}
	var add func(text string, left int)
	add = func(text string, left int) {
		counts[checkParse(t, text, 2)]++
		at, e := wrong(text, 2)
		if e != api.OK && at < len(text) || left == 0 || t.Failed() {
			return
		}
		for _, s := range l {
			if text == "" {
				add(s, left-1)
			} else {
				add(text+" "+s, left-1)
			}
		}
	}
	add("", 7)
	if counts[api.OK] < 1000 || counts[api.ErrForm] < 10000 {
		t.Error("the test is wrong", counts)
	}
}

func TestParseRandom(t *testing.T) { // P8.1
	r := rand.New(rand.NewPCG(3, 4))
	counts := map[api.Errno]int{}
	for range 30000 {
		counts[checkParse(t, randomWords(r), 2)]++
	}
	formulasOf(r, 10000, func(text string, n int) {
		if e := checkParse(t, text, n); e == api.ErrForm {
			t.Error("the test is wrong", text)
		}
		for range 3 {
			text = spoiled(r, text)
			counts[checkParse(t, text, n)]++
		}
	})
	if counts[api.OK] < 3000 || counts[api.ErrForm] < 5000 {
		t.Error("the test is wrong", counts)
	}
}

func TestParseArguments(t *testing.T) { // P8.1
	long := strings.Repeat(" ", 1<<20-1) + "1 "
	for _, n := range numbers() {
		for _, text := range []string{"", "1", "x1", "$", long, strings.Repeat("(", 300)} {
			c, at, e := infix.Parse(text, n)
			want := api.OK
			switch {
			case n < 0 || n > 128:
				want = api.ErrArg
			case len(text) > 1<<20 || len(text) == 300:
				want = api.ErrLong
			case text == "" || text == "$" || text == "x1" && n == 0:
				want = api.ErrForm
			}
			if e != want || (at != 0) != (len(text) == 300 && n >= 0 && n <= 128) || want != api.OK && (c.N != 0 || len(c.L) != 0) || want == api.OK && (c.N != n || len(c.L) != 1) {
				t.Error(n, brief(text), c, at, e)
			}
		}
	}
}

// TestParseLongText has texts at the limit of their length and above it.
func TestParseLongText(t *testing.T) { // P8.1
	limit := 1 << 20
	blanks := strings.Repeat(" ", limit)
	checkAccepted(t, []accepted{
		{blanks[2:] + "x1", []api.Gate{x(1)}},
		{"x1" + blanks[2:], []api.Gate{x(1)}},
		{"(" + blanks[6:] + "!x1 )", []api.Gate{x(-1)}},
	})
	checkRefused(t, []refused{
		{blanks, limit, api.ErrForm},
		{blanks + " ", 0, api.ErrLong},
		{blanks + "x1", 0, api.ErrLong},
		{"$" + blanks, 0, api.ErrLong},
		{strings.Repeat("(", limit+1), 0, api.ErrLong},
		{strings.Repeat("x", limit+1), 0, api.ErrLong},
		{strings.Repeat("x", limit), 0, api.ErrForm},
		{strings.Repeat("1", limit), 0, api.ErrForm},
		{"x1 & x" + strings.Repeat("1", limit-6), 5, api.ErrForm},
		{strings.Repeat("(", limit), 200, api.ErrLong},
		{strings.Repeat("!", limit), 200, api.ErrLong},
		{strings.Repeat("x1 ", limit/3), 3, api.ErrForm},
		{blanks[1:] + "$", limit - 1, api.ErrForm},
	})
}

// TestParseManyGates has circuits at the limit of their gates and above it, up to the longest texts.
func TestParseManyGates(t *testing.T) { // P8.1
	// rows are texts of a unit and another one, or the same, behind it again and again, with the gates of both.
	rows := []struct {
		unit, again       string
		gates, gatesAgain int
	}{
		{"x1 & x1", " & x1", 3, 1}, {"x1|x1", "|x1", 3, 1}, {"0 ^ 1", "^ !x9", 3, 1}, {"x1 -> x2", "->x3", 4, 3}, {"x1<->0", "<->1", 3, 2},
		{"x1 | x1", " | x1 & x2", 3, 3}, {"(x1) | x1", " | !(x1)", 3, 2}, {"xor() ^ 0", " ^ xor()", 3, 1}, {"1 & 1", "& !!x1", 3, 2},
	}
	for _, l := range rows {
		for _, gates := range []int{4094, 4096, 4097, 4100} {
			count := (gates - l.gates) / l.gatesAgain
			text := l.unit + strings.Repeat(l.again, count)
			c, at, e := infix.Parse(text, 9)
			all := l.gates + count*l.gatesAgain
			if all <= 4096 && (len(c.L) != all || at != 0 || e != api.OK) || all > 4096 && (len(c.L) != 0 || c.N != 0 || at != 0 || e != api.ErrLong) {
				t.Error(brief(text), all, len(c.L), at, e)
			}
			checkParse(t, text, 9)
			checkRefused(t, []refused{{text + " ! & x1", len(text) + 1, api.ErrForm}, {text + " &   ", len(text) + 5, api.ErrForm}, {text + "$", len(text), api.ErrForm}})
		}
		longest := l.unit + strings.Repeat(l.again, (1<<20-len(l.unit))/len(l.again))
		if c, at, e := infix.Parse(longest, 9); len(c.L) != 0 || at != 0 || e != api.ErrLong {
			t.Error(brief(longest), len(c.L), at, e)
		}
		cut := longest[:len(longest)-len(l.again)] + "  ,"
		if c, at, e := infix.Parse(cut, 9); len(c.L) != 0 || at != len(cut)-1 || e != api.ErrForm {
			t.Error(brief(cut), len(c.L), at, e)
		}
	}
	list := "and(" + strings.Repeat("x1,", 4094) + "x1)"
	if c, _, e := infix.Parse(list, 1); len(c.L) != 4096 || len(c.L[4095].In) != 4095 || e != api.OK {
		t.Error("a list", len(c.L), e)
	}
	checkRefused(t, []refused{{"and(" + strings.Repeat("x1,", 4095) + "x1)", 0, api.ErrLong}, {"and(" + strings.Repeat("x1,", 4095) + ")", 4 + 3*4095, api.ErrForm}})
}
