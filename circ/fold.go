package circ

import (
	"slices"
	"strconv"

	"census/api"
)

// folder is the new list of gates to which a circuit is folded.
type folder struct {
	gates []api.Gate
	at    map[string]int               // where each gate of the list is, by its key
	fold  map[int]func(g api.Gate) int // by kinds: what is found for a gate whose inputs are those of the list
}

// newFolder returns a folder with an empty list.
func newFolder() *folder {
	f := &folder{at: map[string]int{}}
	f.fold = map[int]func(g api.Gate) int{
		api.GateFalse: f.find,
		api.GateTrue:  f.find,
		api.GateLit:   f.find,
		api.GateNot:   f.foldNot,
		api.GateAnd:   f.foldAnd,
		api.GateOr:    f.foldOr,
		api.GateXor:   f.foldXor,
		api.GateIff:   f.foldIff,
		api.GateIf:    f.foldIf,
	}
	return f
}

// Fold returns an equivalent circuit in simplest form.
func Fold(c api.Circuit) (api.Circuit, api.Errno) {
	if e := Check(c); e != api.OK {
		return api.Circuit{}, e
	}
	f := newFolder()
	found := make([]int, len(c.L))
	for i, g := range c.L {
		found[i] = f.fold[g.Kind](renumbered(g, found))
	}
	return api.Circuit{N: c.N, L: f.needed(found[len(found)-1])}, api.OK
}

// renumbered returns g with the numbers that its inputs have in place.
func renumbered(g api.Gate, place []int) api.Gate {
	var in []int
	for _, x := range g.In {
		in = append(in, place[x])
	}
	g.In = in
	return g
}

// key returns the text of a gate, which only equal gates have.
func key(g api.Gate) string {
	var text []byte
	for _, x := range slices.Concat([]int{g.Kind, g.Lit}, g.In) {
		text = strconv.AppendInt(text, int64(x), 10)
		text = append(text, ' ')
	}
	return string(text)
}

// find returns the gate of the list that is equal to g, which is appended if there is none.
func (f *folder) find(g api.Gate) int {
	k := key(g)
	x, ok := f.at[k]
	if !ok {
		x = len(f.gates)
		f.gates = append(f.gates, g)
		f.at[k] = x
	}
	return x
}

// is reports whether gate x of the list is of a kind.
func (f *folder) is(x, kind int) bool { return f.gates[x].Kind == kind }

// not finds the opposite of gate x.
func (f *folder) not(x int) int {
	switch g := f.gates[x]; g.Kind {
	case api.GateFalse:
		return f.find(api.Gate{Kind: api.GateTrue})
	case api.GateTrue:
		return f.find(api.Gate{Kind: api.GateFalse})
	case api.GateLit:
		return f.find(api.Gate{Kind: api.GateLit, Lit: -g.Lit})
	case api.GateNot:
		return g.In[0]
	}
	return f.find(api.Gate{Kind: api.GateNot, In: []int{x}})
}

func (f *folder) foldNot(g api.Gate) int { return f.not(g.In[0]) }

func (f *folder) foldAnd(g api.Gate) int { return f.join(g, api.GateTrue, api.GateFalse) }

func (f *folder) foldOr(g api.Gate) int { return f.join(g, api.GateFalse, api.GateTrue) }

// join folds a GateAnd or GateOr, where inputs of the kind idle do not matter, and one of the kind strong decides.
func (f *folder) join(g api.Gate, idle, strong int) int {
	var in []int
	met := map[int]bool{}
	for _, x := range g.In {
		switch {
		case f.is(x, strong):
			return x
		case f.is(x, idle) || met[x]:
			continue
		}
		met[x] = true
		in = append(in, x)
	}
	switch len(in) {
	case 0:
		return f.find(api.Gate{Kind: idle})
	case 1:
		return in[0]
	}
	return f.find(api.Gate{Kind: g.Kind, In: in})
}

func (f *folder) foldXor(g api.Gate) int {
	in, flip := f.unpaired(g.In)
	switch {
	case len(in) == 0 && flip:
		return f.find(api.Gate{Kind: api.GateTrue})
	case len(in) == 0:
		return f.find(api.Gate{Kind: api.GateFalse})
	case len(in) == 1 && flip:
		return f.not(in[0])
	case len(in) == 1:
		return in[0]
	case flip:
		in = append(in, f.find(api.Gate{Kind: api.GateTrue}))
	}
	return f.find(api.Gate{Kind: api.GateXor, In: in})
}

// unpaired returns the inputs, other than constants, that remain without pairs, in the order of their first occurrences, and whether a GateTrue remains.
func (f *folder) unpaired(inputs []int) (in []int, flip bool) {
	odd := map[int]bool{}
	for _, x := range inputs {
		odd[x] = !odd[x]
	}
	for _, x := range inputs {
		if !odd[x] {
			continue
		}
		odd[x] = false // at the other occurrences of x nothing is left of it
		switch f.gates[x].Kind {
		case api.GateFalse:
		case api.GateTrue:
			flip = true
		default:
			in = append(in, x)
		}
	}
	return in, flip
}

func (f *folder) foldIff(g api.Gate) int {
	x, y := g.In[0], g.In[1]
	switch {
	case x == y:
		return f.find(api.Gate{Kind: api.GateTrue})
	case f.is(x, api.GateTrue):
		return y
	case f.is(y, api.GateTrue):
		return x
	case f.is(x, api.GateFalse):
		return f.not(y)
	case f.is(y, api.GateFalse):
		return f.not(x)
	}
	return f.find(g)
}

func (f *folder) foldIf(g api.Gate) int {
	x, y, z := g.In[0], g.In[1], g.In[2]
	switch {
	case f.is(x, api.GateTrue):
		return y
	case f.is(x, api.GateFalse):
		return z
	case y == z:
		return y
	case f.is(y, api.GateTrue) && f.is(z, api.GateFalse):
		return x
	case f.is(y, api.GateFalse) && f.is(z, api.GateTrue):
		return f.not(x)
	}
	return f.find(g)
}

// needed returns the gates of the list that the root needs, and renumbers their inputs.
func (f *folder) needed(root int) []api.Gate {
	need := make([]bool, root+1)
	need[root] = true
	for x := root; x >= 0; x-- {
		if need[x] {
			for _, y := range f.gates[x].In {
				need[y] = true
			}
		}
	}
	var l []api.Gate
	place := make([]int, root+1)
	for x, g := range f.gates[:root+1] {
		if need[x] {
			place[x] = len(l)
			l = append(l, renumbered(g, place))
		}
	}
	return l
}
