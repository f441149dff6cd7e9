package infix_test

import (
	"math/rand/v2"
	"strings"
	"testing"

	"census/api"
	"census/infix"
)

// opening is a text that leaves tokens open, of which it never has more open than at its end, with the text that ends what they begin.
type opening struct {
	text, end string
	open      int
}

// openings returns texts that leave tokens open, each of which can stand behind each other one.
func openings() []opening {
	return []opening{
		{"(", ")", 1}, {"!", "", 1}, {"! ", " ", 1}, {"and(", ")", 1}, {"or ( ", ")", 1}, {"xor(x1, ", ", x2)", 1}, {"if(", ", x1, x2)", 1}, {"if(x1, ", ", 0)", 1},
		{"if(1, x1 & x2, ", ")", 1}, {"!(", ")", 2}, {"!and(", ")", 2}, {"(x1 & !(x2 | !(", ")))", 5}, {"(x1 -> ", " <-> x2)", 1}, {"!!if(x1, x2, ((", ")))", 5},
		{"((!x1 | x2) & ((", " ^ 0)))", 3}, {"and(!x1 | !(x2 <-> ", " -> x3))", 3}, {"or(and(), xor((", ")))", 3},
	}
}

func TestMaxOpen(t *testing.T) { // P8.1
	if infix.MaxOpen != 200 {
		t.Error(infix.MaxOpen)
	}
	for _, o := range openings() {
		count := 200 / o.open
		text, end := strings.Repeat(o.text, count), strings.Repeat(o.end, count)
		text += strings.Repeat("(", 200-count*o.open)
		end = strings.Repeat(")", 200-count*o.open) + end
		if e := checkParse(t, text+"x3"+end, 9); e != api.OK {
			t.Error(o, e)
		}
		at := len(text)
		checkRefused(t, []refused{
			{text + "(", at, api.ErrLong},
			{text + "!", at, api.ErrLong},
			{text + "(x3)" + end, at, api.ErrLong},
			{text + "!x3" + end, at, api.ErrLong},
			{text + "!$", at, api.ErrLong},
			{text + "($", at, api.ErrLong},
			{text + "()", at, api.ErrLong},
			{text + "and()" + end, at + 3, api.ErrLong},
			{text + "if(x1, x2)", at + 2, api.ErrLong},
			{text + "and  (", at + 5, api.ErrLong},
			{text + "and!", at + 3, api.ErrForm},
			{text + "and x1", at + 4, api.ErrForm},
			{text + ",", at, api.ErrForm},
			{text + "$", at, api.ErrForm},
			{text, at, api.ErrForm},
			{text + "x10", at, api.ErrForm},
			{text + "x3(", at + 2, api.ErrForm},
			{text + "x3 !", at + 3, api.ErrForm},
			{text + "x3 and(", at + 3, api.ErrForm},
			{"$" + text + "(", 0, api.ErrForm},
		})
		checkParse(t, text+")", 9)
	}
}

// TestNotOpen has tokens that are not open any more, or not yet.
func TestNotOpen(t *testing.T) { // P8.1
	deep := strings.Repeat("(", 199)
	for _, s := range []string{"!x1 & (x2)", "!x1 & !x2", "!x1 -> !x2 -> (x3)", "(x1) | (x2)", "and() ^ or(xor)", "and(x1) ^ or(x2)", "and(!x1, !x2, x3) & if(!x1, x2, (x3))",
		"!x1 | (!x2)", "!(x1)", "(!x1)", "!!x1", "!x1 <-> !!x2", "(x1) & !x2 & ((x3))", "x1 & !and()", "!x1 & and(and())", "if(x1, !x2, !x3)", "if(!x1, (x2), x3)"} {
		checkParse(t, deep+s+strings.Repeat(")", 199), 9)
		checkParse(t, deep[1:]+s+strings.Repeat(")", 198), 9)
		checkParse(t, deep[2:]+s+strings.Repeat(")", 197), 9)
		checkParse(t, deep+"!"+s, 9)
		checkParse(t, strings.Repeat("!", 199)+s, 9)
		checkParse(t, strings.Repeat("!", 198)+s, 9)
	}
	for _, s := range []string{"!x1 & !x2 & !x3", "(x1) | (x2) | (x3)", "and() ^ or() ^ xor()", "!x1 -> (x2) -> and()"} {
		if _, at, e := infix.Parse(deep+s+strings.Repeat(")", 199), 9); at != 0 || e != api.OK {
			t.Error(s, at, e)
		}
	}
}

// TestOpenRandom has formulas that begin where many tokens are open.
func TestOpenRandom(t *testing.T) { // P8.1
	r := rand.New(rand.NewPCG(5, 6))
	l := openings()
	counts := map[api.Errno]int{}
	for range 1500 {
		text, end := "", ""
		open := 197 + r.IntN(4)
		for open > 0 {
			o := l[r.IntN(len(l))]
			if o.open <= open {
				text += o.text
				end = o.end + end
				open -= o.open
			}
		}
		text += randomFormula(r, 3, 1+r.IntN(4)) + end
		counts[checkParse(t, text, 9)]++
		counts[checkParse(t, spoiled(r, text), 9)]++
	}
	if counts[api.OK] < 300 || counts[api.ErrForm] < 300 || counts[api.ErrLong] < 300 {
		t.Error("the test is wrong", counts)
	}
}

// TestParseOften calls Parse several times (R5), with memory that is changed between the calls (R1).
func TestParseOften(t *testing.T) {
	text := "x1 & !x2 | if(x3, x4 ^ !(x5), x6 -> x7) <-> xor(x1, x2, x3 & x4)"
	want, _, _ := parsed(text, 9)
	for range 3 {
		c, at, e := infix.Parse(text, 9)
		if !same(c, want) || at != 0 || e != api.OK {
			t.Fatal(c, at, e)
		}
		for i := range c.L {
			in, other := c.L[i].In, copied(c)
			_ = append(in, 7, 7, 7, 7, 7, 7, 7, 7)
			for k := range in {
				in[k] += 9
				other.L[i].In[k] += 9
			}
			if !same(c, other) {
				t.Error("two gates share memory", i)
			}
		}
	}
	for range 3 {
		checkParse(t, text+")", 9)
		checkParse(t, strings.Repeat("!", 250), 9)
	}
}
