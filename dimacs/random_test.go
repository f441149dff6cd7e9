package dimacs_test

import (
	"math/rand/v2"
	"slices"
	"strconv"
	"strings"

	"census/dimacs"
)

// numberOf returns numbers of variables, those beside the ends of words and the limit included.
func numberOf(r *rand.Rand) int {
	return []int{0, 1, 2, 3, 3, 4, 5, 9, 10, 64, 65, 100, 127, 128}[r.IntN(14)]
}

// literals returns k literals of n variables.
func literals(r *rand.Rand, n, k int) []int {
	if n == 0 {
		return nil
	}
	l := make([]int, k)
	for i := range l {
		l[i] = (1 + r.IntN(n)) * (1 - 2*r.IntN(2))
	}
	return l
}

// values returns texts that rat.Read accepts.
func values() []string {
	digits := strings.Repeat("7", 2000)
	return []string{"0", "1", "2", "1/2", "2/3", "99999/100000", "123456789012345678901234567890", "3/1000000", digits, "1/" + digits}
}

// randomFile returns a valid file.
func randomFile(r *rand.Rand) dimacs.File {
	var f dimacs.File
	f.T.N = numberOf(r)
	for range r.IntN(8) {
		f.T.L = append(f.T.L, literals(r, f.T.N, r.IntN(6)))
	}
	if r.IntN(20) == 0 {
		f.T.L = append(f.T.L, literals(r, f.T.N, 128))
	}
	l := r.Perm(f.T.N)
	for _, v := range l[:r.IntN(len(l)+1)] {
		f.Show = append(f.Show, v+1)
	}
	v := values()
	// The numbers from 1 to 2 N stand for all literals.
	for _, i := range r.Perm(2 * f.T.N)[:r.IntN(min(2*f.T.N, 9)+1)] {
		w := dimacs.Weight{Lit: i + 1, Value: v[r.IntN(len(v))]}
		if w.Lit > f.T.N {
			w.Lit = f.T.N - w.Lit
		}
		f.Weights = append(f.Weights, w)
	}
	return f
}

// oddWords returns words, some of which belong at no place, or just at few.
func oddWords() []string {
	return []string{"p", "cnf", "c", "show", "weight", "0", "1", "-1", "2", "-2", "3", "128", "-128", "129", "-129",
		"4096", "4097", "00", "01", "-0", "-01", "+1", "--1", "-", "1/2", "2/4", "1/", "1.5", "99999", "-99999", "100000",
		"-100000", "18446744073709551617", "1\t", "\t", "0\r", "x", "P", "CNF", "ccc", "é", "\xff", "\x00", "1_0", "0x1"}
}

// vary returns words with one that is replaced, put in or left out.
func vary(r *rand.Rand, words []string) []string {
	odd := oddWords()
	i, w := r.IntN(len(words)+1), odd[r.IntN(len(odd))]
	switch {
	case i == len(words) || r.IntN(3) == 0:
		return slices.Insert(words, i, w)
	case r.IntN(2) == 0:
		return slices.Delete(words, i, i+1)
	}
	words[i] = w
	return words
}

// texts returns numbers as words.
func texts(l []int) []string {
	var words []string
	for _, x := range l {
		words = append(words, strconv.Itoa(x))
	}
	return words
}

// randomLine returns the words of a line for n variables, and how many clauses it ends if its words are not changed.
func randomLine(r *rand.Rand, n int) (words []string, ends int) {
	switch r.IntN(12) {
	case 0:
		return nil, 0
	case 1:
		return []string{"c", "a", "p", "show"}[:1+r.IntN(4)], 0
	case 2:
		return []string{"c", "p", "shown", "1", "0"}[:1+r.IntN(5)], 0
	case 3:
		words = []string{"c", "p", "show"}
		for _, x := range literals(r, n, r.IntN(3)) {
			words = append(words, strconv.Itoa(max(x, -x)))
		}
		return append(words, "0"), 0
	case 4, 5:
		if n == 0 {
			return nil, 0
		}
		v := values()
		return []string{"c", "p", "weight", texts(literals(r, n, 1))[0], v[r.IntN(len(v))], "0"}, 0
	case 6:
		if r.IntN(4) == 0 {
			return texts(literals(r, n, 60+r.IntN(80))), 0
		}
		return texts(literals(r, n, r.IntN(3))), 0
	}
	ends = r.IntN(4)
	for range ends {
		words = append(append(words, texts(literals(r, n, r.IntN(4)))...), "0")
	}
	return append(words, texts(literals(r, n, r.IntN(2)))...), ends
}

// spaced returns a line of words, with some more blanks than are needed.
func spaced(r *rand.Rand, words []string) string {
	blanks := func(least int) string { return strings.Repeat(" ", least+max(r.IntN(5)-2, 0)) }
	s := blanks(0)
	for i, w := range words {
		if i > 0 {
			s += blanks(1)
		}
		s += w
	}
	return s + blanks(0)
}

// randomText returns a text that is that of a file, or has some faults.
func randomText(r *rand.Rand) string {
	n, ends, odds := numberOf(r), 1, 4+r.IntN(60)
	var after []string
	for range r.IntN(20) {
		words, more := randomLine(r, n)
		ends += more
		if r.IntN(odds) == 0 {
			words = vary(r, words)
		}
		after = append(after, spaced(r, words))
	}
	after = append(after, spaced(r, []string{"0"}))
	if r.IntN(8) == 0 {
		ends = r.IntN(5)
	}
	problem := []string{"p", "cnf", strconv.Itoa(n), strconv.Itoa(ends)}
	if r.IntN(odds) == 0 {
		problem = vary(r, problem)
	}
	lines := []string{"", "c", " c p", "c p cnf 1 1"}[:r.IntN(5)]
	if r.IntN(20) > 0 {
		lines = append(lines, spaced(r, problem))
	}
	if len(lines) == 0 || r.IntN(20) > 0 {
		lines = append(lines, after...)
	}
	return strings.Join(lines, "\n") + strings.Repeat("\n", r.IntN(3))
}
