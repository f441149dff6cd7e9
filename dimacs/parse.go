package dimacs

import (
	"slices"
	"strconv"
	"strings"

	"census/api"
	"census/lit"
	"census/rat"
)

// maxNumber is the greatest number that a text can have: one of five digits.
const maxNumber = 99999

// reader is the file of the lines that have been read, and what the next ones depend on.
type reader struct {
	file    File
	begun   bool  // whether the p line has been read
	clauses int   // how many of them the p line announces
	open    []int // the clause that has not been ended
	show    func(v int) api.Errno
	weigh   func(x int) api.Errno
	lines   map[string]func(words []string) api.Errno
}

// newReader returns a reader that has read nothing.
func newReader() *reader {
	r := &reader{}
	r.lines = map[string]func(words []string) api.Errno{"p": r.readProblem, "c": r.readComment}
	return r
}

// Parse returns the file of a text, or the number of the first line that is wrong.
func Parse(text string) (f File, line int, e api.Errno) {
	if len(text) > api.MaxText {
		return File{}, 0, api.ErrLong
	}
	r := newReader()
	for i, l := range strings.Split(text, "\n") {
		if e := r.readLine(l); e != api.OK {
			return File{}, i + 1, e
		}
	}
	if e := r.end(); e != api.OK {
		return File{}, 0, e
	}
	return r.file, 0, api.OK
}

// readLine reads a line of any form.
func (r *reader) readLine(line string) api.Errno {
	words := strings.FieldsFunc(line, func(c rune) bool { return c == ' ' })
	if len(words) == 0 {
		return api.OK
	}
	if read, ok := r.lines[words[0]]; ok {
		return read(words[1:])
	}
	return r.readLiterals(words)
}

// readProblem reads what comes after p: the numbers of variables and clauses.
func (r *reader) readProblem(words []string) api.Errno {
	if len(words) != 3 || words[0] != "cnf" {
		return api.ErrForm
	}
	l, ok := numbers(words[1:])
	if !ok || slices.Min(l) < 0 {
		return api.ErrForm
	}
	if r.begun {
		return api.ErrTwice
	}
	n, m := l[0], l[1]
	if n > api.MaxVars || m > api.MaxClauses {
		return api.ErrRange
	}
	r.begun, r.file.T.N, r.clauses = true, n, m
	r.show, r.weigh = once(n), once(n)
	return api.OK
}

// readComment reads what comes after c.
func (r *reader) readComment(words []string) api.Errno {
	if len(words) < 2 || words[0] != "p" {
		return api.OK
	}
	switch words[1] {
	case "show":
		return r.readShow(words[2:])
	case "weight":
		return r.readWeight(words[2:])
	}
	return api.OK
}

// readShow reads what comes after c p show: variables and 0.
func (r *reader) readShow(words []string) api.Errno {
	l, ok := numbers(words)
	last := len(l) - 1
	if !ok || !r.begun || last < 0 || l[last] != 0 || last > 0 && slices.Min(l[:last]) <= 0 {
		return api.ErrForm
	}
	for _, v := range l[:last] {
		if e := r.show(v); e != api.OK {
			return e
		}
	}
	r.file.Show = append(r.file.Show, l[:last]...)
	return api.OK
}

// readWeight reads what comes after c p weight: a literal, its weight and 0.
func (r *reader) readWeight(words []string) api.Errno {
	if !r.begun || len(words) != 3 || words[2] != "0" {
		return api.ErrForm
	}
	x, isNumber := number(words[0])
	_, isValue := rat.Read(words[1])
	if !isNumber || x == 0 || !isValue {
		return api.ErrForm
	}
	if e := r.weigh(x); e != api.OK {
		return e
	}
	// The copy keeps the file from holding all of the text.
	r.file.Weights = append(r.file.Weights, Weight{Lit: x, Value: strings.Clone(words[1])})
	return api.OK
}

// readLiterals reads a line of literals and zeros.
func (r *reader) readLiterals(words []string) api.Errno {
	l, ok := numbers(words)
	if !ok || !r.begun {
		return api.ErrForm
	}
	for _, x := range l {
		if e := r.take(x); e != api.OK {
			return e
		}
	}
	return api.OK
}

// take adds a literal to the clause that is open, or ends it if x is 0.
func (r *reader) take(x int) api.Errno {
	switch {
	case x == 0:
		r.file.T.L = append(r.file.T.L, r.open)
		r.open = nil
	case !lit.Valid(x, r.file.T.N):
		return api.ErrRange
	case len(r.open) == api.MaxVars:
		return api.ErrLong
	default:
		r.open = append(r.open, x)
	}
	return api.OK
}

// end returns what is wrong with a text of which no line is.
func (r *reader) end() api.Errno {
	switch {
	case !r.begun:
		return api.ErrNone
	case len(r.open) > 0 || len(r.file.T.L) != r.clauses:
		return api.ErrForm
	}
	return api.OK
}

// number returns the number of at most five digits, with or without a minus, that a word is.
func number(word string) (int, bool) {
	n, err := strconv.Atoi(word)
	// A word with zeros or a plus ahead, or a minus before 0, is not what Itoa returns for its number.
	if err != nil || n < -maxNumber || n > maxNumber || strconv.Itoa(n) != word {
		return 0, false
	}
	return n, true
}

// numbers returns the numbers that all the words are.
func numbers(words []string) ([]int, bool) {
	l := make([]int, len(words))
	for i, w := range words {
		n, ok := number(w)
		if !ok {
			return nil, false
		}
		l[i] = n
	}
	return l, true
}
