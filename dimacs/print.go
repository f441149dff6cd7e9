package dimacs

import (
	"strconv"
	"strings"

	"census/api"
	"census/rat"
	"census/theory"
)

// Print returns the text of a file.
func Print(f File) (string, api.Errno) {
	if e := check(f); e != api.OK {
		return "", e
	}
	var b strings.Builder
	line := func(words ...string) {
		b.WriteString(strings.Join(words, " "))
		b.WriteByte('\n')
	}
	line("p cnf", strconv.Itoa(f.T.N), strconv.Itoa(len(f.T.L)))
	if len(f.Show) > 0 {
		line("c p show", ended(f.Show))
	}
	for _, w := range f.Weights {
		line("c p weight", strconv.Itoa(w.Lit), w.Value, "0")
	}
	for _, c := range f.T.L {
		line(ended(c))
	}
	if b.Len() > api.MaxText {
		return "", api.ErrLong
	}
	return b.String(), api.OK
}

// check returns OK if f is valid.
func check(f File) api.Errno {
	if e := theory.Check(f.T); e != api.OK {
		return e
	}
	show, weigh := once(f.T.N), once(f.T.N)
	for _, v := range f.Show {
		// A negative number may be a literal, but is no variable; neither is 0.
		if e := show(max(v, 0)); e != api.OK {
			return e
		}
	}
	for _, w := range f.Weights {
		if e := weigh(w.Lit); e != api.OK {
			return e
		}
		if _, ok := rat.Read(w.Value); !ok {
			return api.ErrForm
		}
	}
	return api.OK
}

// ended returns the words of a list of numbers with 0 at its end.
func ended(l []int) string {
	var b strings.Builder
	for _, x := range l {
		b.WriteString(strconv.Itoa(x))
		b.WriteByte(' ')
	}
	b.WriteByte('0')
	return b.String()
}
