package infix_test

import (
	"math"
	"math/rand/v2"
	"slices"
	"strconv"
	"strings"

	"census/api"
)

// words returns tokens of all kinds, and what is none, for about two variables.
func words() []string {
	return []string{"x1", "x2", "x3", "0", "1", "!", "&", "^", "|", "->", "<->", "(", ")", ",", "and", "or", "xor", "if",
		"x", "x0", "x01", "xx1", "2", "00", "10", "1x", "andx1", "xorx1", "iff", "not", "a", "-", "<", "<-", ">", "=", "$", "X1", "AND", "\t", "\n", "\x00", "\xff", "é"}
}

// randomWords returns a text of some words, with or without blanks.
func randomWords(r *rand.Rand) string {
	l := words()
	if r.IntN(3) > 0 {
		l = l[:18]
	}
	var b strings.Builder
	for range r.IntN(12) {
		b.WriteString(l[r.IntN(len(l))])
		b.WriteString(strings.Repeat(" ", r.IntN(3)))
	}
	return b.String()
}

// randomFormula returns a formula of any level, of n variables, with parentheses only by chance.
func randomFormula(r *rand.Rand, n, depth int) string {
	if depth == 0 || r.IntN(8) == 0 {
		if n == 0 || r.IntN(5) == 0 {
			return strconv.Itoa(r.IntN(2))
		}
		return "x" + strconv.Itoa(1+r.IntN(n))
	}
	parts := func(k int, between string) string {
		var l []string
		for range k {
			l = append(l, randomFormula(r, n, depth-1))
		}
		return strings.Join(l, between)
	}
	switch r.IntN(6) {
	case 0:
		return "!" + strings.Repeat(" ", r.IntN(2)) + randomSingle(r, n, depth-1)
	case 1:
		return randomSingle(r, n, depth)
	}
	sign := []string{"&", "^", "|", "->", "<->"}[r.IntN(5)]
	blanks := strings.Repeat(" ", r.IntN(3))
	return parts(2+r.IntN(3), blanks+sign+blanks)
}

// randomSingle returns a formula of level 7.
func randomSingle(r *rand.Rand, n, depth int) string {
	if depth == 0 {
		return randomFormula(r, n, 0)
	}
	parts := func(k int) string {
		var l []string
		for range k {
			l = append(l, randomFormula(r, n, depth-1))
		}
		return "(" + strings.Join(l, []string{",", ", ", " , "}[r.IntN(3)]) + ")"
	}
	switch r.IntN(6) {
	case 0:
		return "!" + randomSingle(r, n, depth-1)
	case 1:
		return parts(1)
	case 2:
		return "if" + parts(3)
	}
	return []string{"and", "or", "xor"}[r.IntN(3)] + parts(r.IntN(4))
}

// spoiled returns a text of which something is left out, repeated, exchanged or put in.
func spoiled(r *rand.Rand, text string) string {
	l := words()
	at := r.IntN(len(text) + 1)
	to := at + r.IntN(min(3, len(text)-at)+1)
	switch r.IntN(4) {
	case 0:
		return text[:at] + text[to:]
	case 1:
		return text[:to] + text[at:]
	case 2:
		return text[:at] + l[r.IntN(len(l))] + text[to:]
	}
	return text[:at] + string([]byte{byte(r.IntN(256))}) + text[at:]
}

// formulasOf calls f with many formulas and their numbers of variables.
func formulasOf(r *rand.Rand, count int, f func(text string, n int)) {
	for i := range count {
		n := []int{0, 1, 2, 3, 4, 5, 9, 10, 64, 100, 128}[r.IntN(11)]
		f(randomFormula(r, n, 1+i%5), n)
	}
}

// numbers returns numbers of all kinds.
func numbers() []int {
	l := []int{math.MinInt, math.MinInt + 1, math.MaxInt, math.MinInt32, math.MaxInt32, 1 << 32, 1<<32 + 1, -1 << 32, 1 << 62, 256, -256}
	for i := -131; i <= 131; i++ {
		l = append(l, i)
	}
	return l
}

// randomGate returns a valid gate with the index i of a circuit of n variables.
func randomGate(r *rand.Rand, n, i int) api.Gate {
	for {
		kind := r.IntN(9)
		k := []int{0, 0, 0, 1, r.IntN(5), r.IntN(5), r.IntN(5), 2, 3}[kind]
		g := api.Gate{Kind: kind}
		switch {
		case kind == api.GateLit && n == 0 || k > 0 && i == 0:
			continue
		case kind == api.GateLit:
			g.Lit = (1 + r.IntN(n)) * (1 - 2*r.IntN(2))
		}
		for range k {
			g.In = append(g.In, i-1-r.IntN(1+r.IntN(i))) // gates that are near occur more often
		}
		return g
	}
}

// randomCircuit returns a valid circuit of m gates, the first third of which are literals if there are variables.
func randomCircuit(r *rand.Rand, n, m int) api.Circuit {
	c := api.Circuit{N: n}
	for i := range m {
		if n > 0 && i < m/3 {
			c.L = append(c.L, x((1+r.IntN(n))*(1-2*r.IntN(2))))
			continue
		}
		c.L = append(c.L, randomGate(r, n, i))
	}
	return c
}

// dense returns a valid circuit of m gates, whose formula is long: only the first gates have no inputs, and the others are made of those that are near.
func dense(r *rand.Rand, n, m int) api.Circuit {
	c := circuit(n, no, x(1), x(-n))
	for i := 3; i < m; i++ {
		near := func() int { return i - 1 - r.IntN(min(i, 12)) }
		switch r.IntN(5) {
		case 0:
			c.L = append(c.L, not(near()))
		case 1:
			c.L = append(c.L, cond(near(), near(), near()))
		case 2:
			c.L = append(c.L, iff(near(), near()))
		default:
			c.L = append(c.L, api.Gate{Kind: api.GateAnd + r.IntN(3), In: []int{near(), near(), near()}[:r.IntN(4)]})
		}
	}
	return c
}

// small calls f with valid circuits of at most five variables.
func small(f func(c api.Circuit)) {
	r := rand.New(rand.NewPCG(1, 2))
	for i := range 20000 {
		f(randomCircuit(r, i%6, 1+i%17))
	}
}

// twoGates calls f with circuits whose root is of any kind, with up to three inputs that are gates of all kinds.
func twoGates(f func(c api.Circuit)) {
	base := []api.Gate{x(1), x(-2), no, not(0), and(0, 1), or(0, 1), xor(0, 1), iff(0, 1), cond(0, 1, 2), and(), or(0), xor(5), not(4), not(1), xor(0, 4, 5), iff(7, 7)}
	var add func(in []int)
	add = func(in []int) {
		for _, g := range []api.Gate{not(in...), and(in...), or(in...), xor(in...), iff(in...), cond(in...)} {
			wanted := map[int]int{api.GateNot: 1, api.GateIff: 2, api.GateIf: 3}[g.Kind]
			if wanted == 0 || wanted == len(in) {
				f(copied(circuit(2, append(slices.Clone(base), g)...)))
			}
		}
		if len(in) < 3 {
			for i := range base {
				add(append(slices.Clone(in), i))
			}
		}
	}
	add(nil)
}

// chain returns a circuit of m gates, each of which but the first two is made of the one before it.
func chain(m int, f func(i int) api.Gate) api.Circuit {
	c := circuit(2, x(1), x(-2))
	for i := 2; i < m; i++ {
		c.L = append(c.L, f(i-1))
	}
	return c
}

// sized returns a valid circuit whose formula has a number of bytes, from 1,030,000 to 1,060,000.
func sized(size int) api.Circuit {
	c := circuit(9, x(1), x(-1), and(slices.Repeat([]int{0}, 1000)...), or())
	root := &c.L[3].In
	// With the sign before it, a formula of gate 2 has 5000 bytes, of gate 0 5, and of gate 1 6.
	rest := size + 3
	add := func(gate, bytes, least int) {
		for rest >= bytes+least {
			*root = append(*root, gate)
			rest -= bytes
		}
	}
	add(2, 5000, 100)
	for rest%5 != 0 {
		*root = append(*root, 1)
		rest -= 6
	}
	add(0, 5, 0)
	return c
}
