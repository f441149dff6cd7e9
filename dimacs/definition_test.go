package dimacs_test

import (
	"fmt"
	"regexp"
	"slices"
	"strconv"
	"strings"

	"census/api"
	"census/dimacs"
	"census/rat"
)

// What the tests expect is read by expressions for whole lines, as the chapter defines them.
var (
	emptyLine   = regexp.MustCompile(`^ *$`)
	problemLine = regexp.MustCompile(`^ *p +cnf( +(0|[1-9][0-9]{0,4})){2} *$`)
	showLine    = regexp.MustCompile(`^ *c +p +show( +[1-9][0-9]{0,4})* +0 *$`)
	weightLine  = regexp.MustCompile(`^ *c +p +weight +-?[1-9][0-9]{0,4} +[^ ]+ +0 *$`)
	commentLine = regexp.MustCompile(`^ *c( .*)?$`)
	noComment   = regexp.MustCompile(`^ *c +p +(show|weight)( .*)?$`)
	literalLine = regexp.MustCompile(`^ *(-?[1-9][0-9]{0,4}|0)( +(-?[1-9][0-9]{0,4}|0))* *$`)
)

// wordsOf returns the words of a line.
func wordsOf(line string) []string {
	return slices.DeleteFunc(strings.Split(line, " "), func(w string) bool { return w == "" })
}

// toNumber returns the number that a word is, which is known to be one.
func toNumber(word string) int {
	n, _ := strconv.Atoi(word)
	return n
}

// isLiteral reports whether x is a literal of n variables.
func isLiteral(x, n int) bool { return x >= -n && x <= n && x != 0 }

// model is what the lines so far mean.
type model struct {
	f       dimacs.File
	begun   bool
	clauses int
	inside  bool // the last clause of f has not been ended
}

// read returns the error of a line, and adds what it means.
func (m *model) read(line string) api.Errno {
	words := wordsOf(line)
	switch {
	case emptyLine.MatchString(line), commentLine.MatchString(line) && !noComment.MatchString(line):
		return api.OK
	case problemLine.MatchString(line):
		return m.problem(toNumber(words[2]), toNumber(words[3]))
	case !m.begun:
		return api.ErrForm
	case showLine.MatchString(line):
		return m.show(words[3 : len(words)-1])
	case weightLine.MatchString(line):
		return m.weight(toNumber(words[3]), words[4])
	case literalLine.MatchString(line):
		return m.literals(words)
	}
	return api.ErrForm
}

func (m *model) problem(n, clauses int) api.Errno {
	if m.begun {
		return api.ErrTwice
	}
	if n > 128 || clauses > 4096 {
		return api.ErrRange
	}
	m.begun, m.f.T.N, m.clauses = true, n, clauses
	return api.OK
}

func (m *model) show(words []string) api.Errno {
	for _, w := range words {
		v := toNumber(w)
		if slices.Contains(m.f.Show, v) {
			return api.ErrTwice
		}
		if v > m.f.T.N {
			return api.ErrRange
		}
		m.f.Show = append(m.f.Show, v)
	}
	return api.OK
}

func (m *model) weight(x int, value string) api.Errno {
	if _, ok := rat.Read(value); !ok {
		return api.ErrForm
	}
	if slices.ContainsFunc(m.f.Weights, func(w dimacs.Weight) bool { return w.Lit == x }) {
		return api.ErrTwice
	}
	if !isLiteral(x, m.f.T.N) {
		return api.ErrRange
	}
	m.f.Weights = append(m.f.Weights, dimacs.Weight{Lit: x, Value: value})
	return api.OK
}

func (m *model) literals(words []string) api.Errno {
	for _, w := range words {
		if !m.inside {
			m.f.T.L = append(m.f.T.L, nil)
		}
		x, last := toNumber(w), len(m.f.T.L)-1
		m.inside = x != 0
		switch {
		case x == 0:
		case !isLiteral(x, m.f.T.N):
			return api.ErrRange
		case len(m.f.T.L[last]) >= 128:
			return api.ErrLong
		default:
			m.f.T.L[last] = append(m.f.T.L[last], x)
		}
	}
	return api.OK
}

// parsed returns what Parse returns, by the definition.
func parsed(text string) (dimacs.File, int, api.Errno) {
	if len(text) > 1048576 {
		return dimacs.File{}, 0, api.ErrLong
	}
	m := &model{}
	for i, line := range strings.Split(text, "\n") {
		if e := m.read(line); e != api.OK {
			return dimacs.File{}, i + 1, e
		}
	}
	switch {
	case !m.begun:
		return dimacs.File{}, 0, api.ErrNone
	case m.inside, len(m.f.T.L) != m.clauses:
		return dimacs.File{}, 0, api.ErrForm
	}
	return m.f, 0, api.OK
}

// fault returns the error of a file for Print, by the definition; but not that of a text that is too long.
func fault(f dimacs.File) api.Errno {
	if f.T.N < 0 || f.T.N > 128 {
		return api.ErrRange
	}
	if len(f.T.L) > 4096 {
		return api.ErrLong
	}
	for _, c := range f.T.L {
		if len(c) > 128 {
			return api.ErrLong
		}
		if slices.ContainsFunc(c, func(x int) bool { return !isLiteral(x, f.T.N) }) {
			return api.ErrArg
		}
	}
	for i, v := range f.Show {
		if v < 1 || v > f.T.N {
			return api.ErrRange
		}
		if slices.Contains(f.Show[:i], v) {
			return api.ErrTwice
		}
	}
	for i, w := range f.Weights {
		if !isLiteral(w.Lit, f.T.N) {
			return api.ErrRange
		}
		if slices.ContainsFunc(f.Weights[:i], func(u dimacs.Weight) bool { return u.Lit == w.Lit }) {
			return api.ErrTwice
		}
		if _, ok := rat.Read(w.Value); !ok {
			return api.ErrForm
		}
	}
	return api.OK
}

// printed returns the text of a valid file, by the definition.
func printed(f dimacs.File) string {
	var b strings.Builder
	fmt.Fprintf(&b, "p cnf %d %d\n", f.T.N, len(f.T.L))
	if len(f.Show) > 0 {
		fmt.Fprint(&b, "c p show")
		for _, v := range f.Show {
			fmt.Fprintf(&b, " %d", v)
		}
		fmt.Fprintln(&b, " 0")
	}
	for _, w := range f.Weights {
		fmt.Fprintf(&b, "c p weight %d %s 0\n", w.Lit, w.Value)
	}
	for _, c := range f.T.L {
		for _, x := range c {
			fmt.Fprintf(&b, "%d ", x)
		}
		fmt.Fprintln(&b, "0")
	}
	return b.String()
}

// same reports whether two files are equal.
func same(f, g dimacs.File) bool {
	return f.T.N == g.T.N && slices.EqualFunc(f.T.L, g.T.L, slices.Equal[[]int]) &&
		slices.Equal(f.Show, g.Show) && slices.Equal(f.Weights, g.Weights)
}

// isZero reports whether f is what a call returns together with an error.
func isZero(f dimacs.File) bool {
	return f.T.N == 0 && len(f.T.L) == 0 && len(f.Show) == 0 && len(f.Weights) == 0
}

// copied returns a file that shares no memory with f.
func copied(f dimacs.File) dimacs.File {
	g := dimacs.File{T: api.Theory{N: f.T.N}, Show: slices.Clone(f.Show), Weights: slices.Clone(f.Weights)}
	for _, c := range f.T.L {
		g.T.L = append(g.T.L, slices.Clone(c))
	}
	return g
}
