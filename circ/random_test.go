package circ_test

import (
	"math"
	"math/rand/v2"
	"slices"

	"census/api"
)

// numbers returns numbers of all kinds.
func numbers() []int {
	l := []int{math.MinInt, math.MinInt + 1, math.MaxInt, math.MinInt32, math.MaxInt32, 1 << 32, 1<<32 + 1, -1 << 32, 1 << 62, 256, -256}
	for i := -131; i <= 131; i++ {
		l = append(l, i)
	}
	return l
}

// randomInputs returns k inputs of the gate with the index i, which often repeat and are often near.
func randomInputs(r *rand.Rand, i, k int) (in []int) {
	for len(in) < k && i > 0 {
		switch {
		case len(in) > 0 && r.IntN(4) == 0:
			in = append(in, in[r.IntN(len(in))])
		case r.IntN(2) == 0:
			in = append(in, max(0, i-1-r.IntN(4)))
		default:
			in = append(in, r.IntN(i))
		}
	}
	return in
}

// randomGate returns a valid gate with the index i.
func randomGate(r *rand.Rand, n, i int) api.Gate {
	kind := r.IntN(9)
	k := []int{0, 0, 0, 1, r.IntN(6), r.IntN(6), r.IntN(6), 2, 3}[kind]
	g := api.Gate{Kind: kind, In: randomInputs(r, i, k)}
	if kind == api.GateLit && n > 0 {
		g.Lit = (1 + r.IntN(n)) * (1 - 2*r.IntN(2))
	}
	if !isGate(g, i, n) {
		return randomGate(r, n, i)
	}
	return g
}

// randomCircuit returns a valid circuit of m gates.
func randomCircuit(r *rand.Rand, n, m int) api.Circuit {
	c := api.Circuit{N: n}
	for i := range m {
		if n > 0 && i < m/3 { // literals, most of which are of few variables
			c.L = append(c.L, x((1+r.IntN(1+r.IntN(n)))*(1-2*r.IntN(2))))
			continue
		}
		c.L = append(c.L, randomGate(r, n, i))
	}
	return c
}

// small calls f with valid circuits of at most six variables.
func small(f func(c api.Circuit)) {
	r := rand.New(rand.NewPCG(1, 2))
	for i := range 20000 {
		f(randomCircuit(r, i%7, 1+i%23))
	}
}

// oneGate calls f with circuits whose root is of any kind, with up to four inputs that are any of eight gates.
func oneGate(f func(c api.Circuit)) {
	base := []api.Gate{no, yes, x(1), x(-1), x(2), and(2, 4), not(5), xor(2, 4)}
	var add func(in []int)
	add = func(in []int) {
		for kind := range 9 {
			if g := (api.Gate{Kind: kind, In: in}); isGate(g, len(base), 2) {
				f(copied(circuit(2, append(base, g)...)))
			}
		}
		if len(in) < 4 {
			for i := range base {
				add(append(slices.Clone(in), i))
			}
		}
	}
	add(nil)
}

// big returns valid circuits of many variables and gates, some of them at the limits.
func big() []api.Circuit {
	r := rand.New(rand.NewPCG(3, 4))
	var l []api.Circuit
	for i := range 60 {
		l = append(l, randomCircuit(r, []int{63, 64, 65, 127, 128}[i%5], 40+10*i))
	}
	return append(l, randomCircuit(r, 128, 4096), chain(4096, not), chain(4096, func(in ...int) api.Gate { return xor(in[0], 0) }),
		wide(api.GateAnd, 65536), wide(api.GateOr, 65536), wide(api.GateXor, 65536), many(4096, 65536))
}

// chain returns a circuit of m gates, each of which but the first three is made of the one before it.
func chain(m int, f func(in ...int) api.Gate) api.Circuit {
	c := circuit(2, x(1), x(2), and(0, 1))
	for i := 3; i < m; i++ {
		c.L = append(c.L, f(i-1))
	}
	return c
}

// wide returns a circuit whose last gate has, with those of the gates before it, k inputs.
func wide(kind, k int) api.Circuit {
	c := api.Circuit{N: 128}
	for v := 1; v <= 128; v++ {
		c.L = append(c.L, x(-v))
	}
	for i := 128; i < 1000; i++ {
		c.L = append(c.L, iff(i-1, i-128))
	}
	c.L = append(c.L, api.Gate{Kind: kind})
	for i := range k - inputs(c) {
		c.L[1000].In = append(c.L[1000].In, (i+i/1000)%1000)
	}
	return c
}

// many returns a circuit of m gates with k inputs in all, the last gate with all those that are left.
func many(m, k int) api.Circuit {
	c := circuit(128, x(128), x(-127))
	for i := 2; i < m-1; i++ {
		c.L = append(c.L, cond(i-1, i/2, i-2))
	}
	return circuit(128, append(c.L, or(slices.Repeat([]int{m - 2}, k-inputs(c))...))...)
}

// assignments returns all assignments of n variables, n at most 6.
func assignments(n int) (l []api.Set) {
	for i := range 1 << n {
		l = append(l, api.Set{uint64(i), 0})
	}
	return l
}

// someAssignments returns some assignments of n variables, few of which have most of them.
func someAssignments(r *rand.Rand, n int) (l []api.Set) {
	all := api.Set{math.MaxUint64, math.MaxUint64}
	for v := n + 1; v <= 128; v++ {
		all[(v-1)/64] &^= 1 << ((v - 1) % 64)
	}
	for i := range 20 {
		a := api.Set{r.Uint64() & all[0], r.Uint64() & all[1]}
		if i%4 == 0 {
			a = api.Set{r.Uint64() & a[0], r.Uint64() & a[1]}
		}
		l = append(l, a)
	}
	return append(l, api.Set{}, all)
}
