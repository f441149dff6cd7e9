package circ_test

import (
	"slices"

	"census/api"
)

// circuit returns the circuit of some gates.
func circuit(n int, l ...api.Gate) api.Circuit { return api.Circuit{N: n, L: l} }

// The gates, in the short form in which the tests write them.
var (
	no  = api.Gate{Kind: api.GateFalse}
	yes = api.Gate{Kind: api.GateTrue}
)

func x(l int) api.Gate        { return api.Gate{Kind: api.GateLit, Lit: l} }
func not(in ...int) api.Gate  { return api.Gate{Kind: api.GateNot, In: in} }
func and(in ...int) api.Gate  { return api.Gate{Kind: api.GateAnd, In: in} }
func or(in ...int) api.Gate   { return api.Gate{Kind: api.GateOr, In: in} }
func xor(in ...int) api.Gate  { return api.Gate{Kind: api.GateXor, In: in} }
func iff(in ...int) api.Gate  { return api.Gate{Kind: api.GateIff, In: in} }
func cond(in ...int) api.Gate { return api.Gate{Kind: api.GateIf, In: in} }

// isLiteral reports whether y is a literal of n variables.
func isLiteral(y, n int) bool { return y != 0 && y >= -n && y <= n }

// isGate reports whether condition 3 holds for g, which has the index i.
func isGate(g api.Gate, i, n int) bool {
	for _, k := range g.In {
		if k < 0 || k > i-1 {
			return false
		}
	}
	switch g.Kind {
	case api.GateFalse, api.GateTrue:
		return g.Lit == 0 && len(g.In) == 0
	case api.GateLit:
		return isLiteral(g.Lit, n) && len(g.In) == 0
	case api.GateNot:
		return g.Lit == 0 && len(g.In) == 1
	case api.GateAnd, api.GateOr, api.GateXor:
		return g.Lit == 0
	case api.GateIff:
		return g.Lit == 0 && len(g.In) == 2
	case api.GateIf:
		return g.Lit == 0 && len(g.In) == 3
	}
	return false
}

// fault returns the error of the first of the three conditions that does not hold.
func fault(c api.Circuit) api.Errno {
	if c.N < 0 || c.N > 128 {
		return api.ErrRange
	}
	if len(c.L) > 4096 || inputs(c) > 65536 {
		return api.ErrLong
	}
	for i, g := range c.L {
		if !isGate(g, i, c.N) {
			return api.ErrArg
		}
	}
	if len(c.L) == 0 {
		return api.ErrArg
	}
	return api.OK
}

// inputs returns the number of inputs of all gates.
func inputs(c api.Circuit) (n int) {
	for _, g := range c.L {
		for range g.In {
			n++
		}
	}
	return n
}

// columns returns the values of the gates under at most 64 assignments: bit k of column i is that of gate i under assignment k.
func columns(c api.Circuit, as []api.Set) []uint64 {
	l := make([]uint64, len(c.L))
	for i, g := range c.L {
		switch g.Kind {
		case api.GateTrue, api.GateAnd:
			l[i] = 1<<len(as) - 1
		case api.GateLit:
			for k, a := range as {
				v := max(g.Lit, -g.Lit)
				if a[(v-1)/64]>>((v-1)%64)&1 == 1 == (g.Lit > 0) {
					l[i] |= 1 << k
				}
			}
		case api.GateNot:
			l[i] = ^l[g.In[0]]
		case api.GateIff:
			l[i] = ^(l[g.In[0]] ^ l[g.In[1]])
		case api.GateIf:
			l[i] = l[g.In[0]]&l[g.In[1]] | ^l[g.In[0]]&l[g.In[2]]
		}
		for _, k := range g.In {
			switch g.Kind {
			case api.GateAnd:
				l[i] &= l[k]
			case api.GateOr:
				l[i] |= l[k]
			case api.GateXor:
				l[i] ^= l[k]
			}
		}
	}
	return l
}

// modelsAmong returns which of at most 64 assignments of its variables are models of c: bit k says it of assignment k.
func modelsAmong(c api.Circuit, as []api.Set) uint64 {
	return columns(c, as)[len(c.L)-1] & (1<<len(as) - 1)
}

// list is the new list of gates of the chapter.
type list []api.Gate

// find finds a gate.
func (l *list) find(g api.Gate) int {
	for i, h := range *l {
		if sameGate(g, h) {
			return i
		}
	}
	*l = append(*l, g)
	return len(*l) - 1
}

// opposite returns what is found for the GateNot of a gate.
func (l *list) opposite(i int) int {
	switch g := (*l)[i]; g.Kind {
	case api.GateFalse:
		return l.find(yes)
	case api.GateTrue:
		return l.find(no)
	case api.GateLit:
		return l.find(x(-g.Lit))
	case api.GateNot:
		return g.In[0]
	}
	return l.find(not(i))
}

// without returns the inputs that are not of the kind, each once.
func (l *list) without(kind int, in []int) (rest []int) {
	for k, i := range in {
		if (*l)[i].Kind != kind && slices.Index(in, i) == k {
			rest = append(rest, i)
		}
	}
	return rest
}

// has reports whether an input is of the kind.
func (l *list) has(kind int, in []int) bool {
	return slices.ContainsFunc(in, func(i int) bool { return (*l)[i].Kind == kind })
}

// several returns what is found for a GateAnd or a GateOr, where the constant idle is left out.
func (l *list) several(g, idle, strong api.Gate) int {
	rest := l.without(idle.Kind, g.In)
	switch {
	case l.has(strong.Kind, g.In):
		return l.find(strong)
	case len(rest) == 0:
		return l.find(idle)
	case len(rest) == 1:
		return rest[0]
	}
	return l.find(api.Gate{Kind: g.Kind, In: rest})
}

// odd returns what is found for a GateXor.
func (l *list) odd(in []int) int {
	var rest, end []int
	for _, i := range l.without(api.GateFalse, in) {
		times := 0
		for _, k := range in {
			if k == i {
				times++
			}
		}
		if times%2 == 1 && (*l)[i].Kind == api.GateTrue {
			end = append(end, i)
		} else if times%2 == 1 {
			rest = append(rest, i)
		}
	}
	switch {
	case len(rest)+len(end) == 0:
		return l.find(no)
	case len(rest)+len(end) == 1:
		return append(rest, end...)[0]
	case len(rest) == 1:
		return l.opposite(rest[0])
	}
	return l.find(xor(append(rest, end...)...))
}

// equivalent returns what is found for a GateIff.
func (l *list) equivalent(a, b int) int {
	kinds := [2]int{(*l)[a].Kind, (*l)[b].Kind}
	switch {
	case a == b:
		return l.find(yes)
	case kinds[0] == api.GateTrue:
		return b
	case kinds[1] == api.GateTrue:
		return a
	case kinds[0] == api.GateFalse:
		return l.opposite(b)
	case kinds[1] == api.GateFalse:
		return l.opposite(a)
	}
	return l.find(iff(a, b))
}

// choice returns what is found for a GateIf.
func (l *list) choice(a, b, c int) int {
	kinds := [3]int{(*l)[a].Kind, (*l)[b].Kind, (*l)[c].Kind}
	switch {
	case kinds[0] == api.GateTrue:
		return b
	case kinds[0] == api.GateFalse:
		return c
	case b == c:
		return b
	case kinds[1] == api.GateTrue && kinds[2] == api.GateFalse:
		return a
	case kinds[1] == api.GateFalse && kinds[2] == api.GateTrue:
		return l.opposite(a)
	}
	return l.find(cond(a, b, c))
}

// found returns what is found for a gate with inputs in the list.
func (l *list) found(g api.Gate) int {
	switch g.Kind {
	case api.GateNot:
		return l.opposite(g.In[0])
	case api.GateAnd:
		return l.several(g, yes, no)
	case api.GateOr:
		return l.several(g, no, yes)
	case api.GateXor:
		return l.odd(g.In)
	case api.GateIff:
		return l.equivalent(g.In[0], g.In[1])
	case api.GateIf:
		return l.choice(g.In[0], g.In[1], g.In[2])
	}
	return l.find(g)
}

// reached returns which gates are needed for a gate.
func reached(l []api.Gate, root int) map[int]bool {
	need := map[int]bool{root: true}
	for work := []int{root}; len(work) > 0; work = work[1:] {
		for _, i := range l[work[0]].In {
			if !need[i] {
				need[i] = true
				work = append(work, i)
			}
		}
	}
	return need
}

// folded returns what results from folding a valid circuit, by the definition.
func folded(c api.Circuit) api.Circuit {
	var l list
	var places []int
	for _, g := range c.L {
		places = append(places, l.found(api.Gate{Kind: g.Kind, Lit: g.Lit, In: moved(g.In, places)}))
	}
	root := places[len(places)-1]
	need := reached(l, root)
	f := api.Circuit{N: c.N}
	left := make([]int, len(l))
	for i, g := range l {
		if need[i] {
			left[i] = len(f.L)
			f.L = append(f.L, api.Gate{Kind: g.Kind, Lit: g.Lit, In: moved(g.In, left)})
		}
	}
	return f
}

// moved returns the new numbers of some gates.
func moved(in, places []int) (l []int) {
	for _, i := range in {
		l = append(l, places[i])
	}
	return l
}

// sameGate reports whether two gates are equal.
func sameGate(g, h api.Gate) bool {
	return g.Kind == h.Kind && g.Lit == h.Lit && slices.Equal(g.In, h.In)
}

// same reports whether two circuits are equal.
func same(c, d api.Circuit) bool {
	return c.N == d.N && slices.EqualFunc(c.L, d.L, sameGate)
}

// copied returns a circuit that shares no memory with c.
func copied(c api.Circuit) api.Circuit {
	d := api.Circuit{N: c.N, L: slices.Clone(c.L)}
	for i := range d.L {
		d.L[i].In = slices.Clone(d.L[i].In)
	}
	return d
}
