package infix_test

import (
	"regexp"
	"slices"
	"strconv"
	"strings"

	"census/api"
)

// circuit returns the circuit of some gates.
func circuit(n int, l ...api.Gate) api.Circuit { return api.Circuit{N: n, L: l} }

// The gates, in the short form in which the tests write them.
var (
	no  = api.Gate{Kind: api.GateFalse}
	yes = api.Gate{Kind: api.GateTrue}
)

func x(l int) api.Gate        { return api.Gate{Kind: api.GateLit, Lit: l} }
func not(in ...int) api.Gate  { return api.Gate{Kind: api.GateNot, In: in} }
func and(in ...int) api.Gate  { return api.Gate{Kind: api.GateAnd, In: in} }
func or(in ...int) api.Gate   { return api.Gate{Kind: api.GateOr, In: in} }
func xor(in ...int) api.Gate  { return api.Gate{Kind: api.GateXor, In: in} }
func iff(in ...int) api.Gate  { return api.Gate{Kind: api.GateIff, In: in} }
func cond(in ...int) api.Gate { return api.Gate{Kind: api.GateIf, In: in} }

// mark is a token of a text, with the index of its first byte.
type mark struct {
	text string
	at   int
}

var oneToken = regexp.MustCompile(`^([a-z0-9]+|<->|->|[!&^|(),])`)

// marks returns the tokens of a text up to the first byte with which none begins, and at last this place, or the end, as an empty one.
func marks(text string) (l []mark) {
	for i := 0; ; {
		for i < len(text) && text[i] == 32 {
			i++
		}
		word := oneToken.FindString(text[i:])
		l = append(l, mark{word, i})
		if word == "" {
			return l
		}
		i += len(word)
	}
}

// isVariable reports whether a word is one of n variables.
func isVariable(word string, n int) bool {
	for v := 1; v <= n; v++ {
		if word == "x"+strconv.Itoa(v) {
			return true
		}
	}
	return false
}

// The places at which a token can stand.
const (
	before = iota // a formula has to begin
	first         // the same, or the list of formulas ends
	called        // behind a name
	behind        // behind a formula
)

// continues reports whether a token can stand at a place; top is the last of the open tokens as wrong writes them.
func continues(token string, place int, top byte, n int) bool {
	switch place {
	case called:
		return token == "("
	case behind:
		switch token {
		case "&", "^", "|", "->", "<->":
			return true
		case ")":
			return top == '(' || top == 'l' || top == '1'
		case ",":
			return top == 'l' || top == '3' || top == '2'
		}
		return false
	}
	switch token {
	case "0", "1", "!", "(", "and", "or", "xor", "if":
		return true
	}
	return place == first && token == ")" || isVariable(token, n)
}

// wrong returns the first error that is met when a text is read from the left to the right, and its place.
func wrong(text string, n int) (int, api.Errno) {
	open := "." // then !, or ( of a formula, or l of a list, or how many formulas an if lacks
	place, next := before, byte('(')
	for _, m := range marks(text) {
		top := open[len(open)-1]
		if m.text == "" && m.at == len(text) && place == behind && open == "." {
			return 0, api.OK
		}
		if !continues(m.text, place, top, n) {
			return m.at, api.ErrForm
		}
		if (m.text == "(" || m.text == "!") && len(open)-1 >= 200 {
			return m.at, api.ErrLong
		}
		was := place
		place = before
		switch m.text {
		case "!":
			open += "!"
		case "(":
			open += string(next)
			if next == 'l' {
				place = first
			}
			next = '('
		case "and", "or", "xor":
			place, next = called, 'l'
		case "if":
			place, next = called, '3'
		case ",":
			if top != 'l' {
				open = open[:len(open)-1] + string(top-1)
			}
		case ")":
			open = open[:len(open)-1]
			place = behind
		default:
			if was != behind {
				place = behind
			}
		}
		if place == behind {
			open = strings.TrimRight(open, "!")
		}
	}
	panic("the last token is empty")
}

// The kind of a formula with ->, which has no gate of its own.
const implies = -1

// tree is a formula: the kind and the literal of its gate, and its parts.
type tree struct {
	kind, lit int
	parts     []tree
}

// outside returns the places of a token that are in no parentheses.
func outside(l []string, token string) (places []int) {
	depth := 0
	for i, s := range l {
		switch {
		case s == "(":
			depth++
		case s == ")":
			depth--
		case s == token && depth == 0:
			places = append(places, i)
		}
	}
	return places
}

// split returns the formulas between tokens that are in no parentheses.
func split(l []string, token string) (parts []tree) {
	start := 0
	for _, i := range append(outside(l, token), len(l)) {
		parts = append(parts, treeOf(l[start:i]))
		start = i + 1
	}
	return parts
}

// treeOf returns the formula that some tokens are.
func treeOf(l []string) tree {
	if k := outside(l, "<->"); len(k) > 0 {
		i := k[len(k)-1]
		return tree{kind: api.GateIff, parts: []tree{treeOf(l[:i]), treeOf(l[i+1:])}}
	}
	if k := outside(l, "->"); len(k) > 0 {
		return tree{kind: implies, parts: []tree{treeOf(l[:k[0]]), treeOf(l[k[0]+1:])}}
	}
	for _, s := range []struct {
		token string
		kind  int
	}{{"|", api.GateOr}, {"^", api.GateXor}, {"&", api.GateAnd}} {
		if len(outside(l, s.token)) > 0 {
			return tree{kind: s.kind, parts: split(l, s.token)}
		}
	}
	return single(l)
}

// single returns the formula of level 7 that some tokens are.
func single(l []string) tree {
	last := len(l) - 1
	kinds := map[string]int{"and": api.GateAnd, "or": api.GateOr, "xor": api.GateXor, "if": api.GateIf}
	switch l[0] {
	case "0":
		return tree{kind: api.GateFalse}
	case "1":
		return tree{kind: api.GateTrue}
	case "(":
		return treeOf(l[1:last])
	case "!":
		if len(l) == 2 && l[1][0] == 'x' {
			return tree{kind: api.GateLit, lit: -single(l[1:]).lit}
		}
		return tree{kind: api.GateNot, parts: []tree{single(l[1:])}}
	}
	if kind, ok := kinds[l[0]]; ok {
		if last == 2 {
			return tree{kind: kind}
		}
		return tree{kind: kind, parts: split(l[2:last], ",")}
	}
	v, err := strconv.Atoi(l[0][1:])
	if err != nil {
		panic("no formula")
	}
	return tree{kind: api.GateLit, lit: v}
}

// emit appends the gates of a formula.
func emit(t tree, l *[]api.Gate) int {
	g := api.Gate{Kind: t.kind, Lit: t.lit}
	for _, p := range t.parts {
		g.In = append(g.In, emit(p, l))
	}
	if t.kind == implies {
		*l = append(*l, not(g.In[0]))
		g.Kind, g.In[0] = api.GateOr, len(*l)-1
	}
	*l = append(*l, g)
	return len(*l) - 1
}

// parsed returns what Parse returns, by the definition.
func parsed(text string, n int) (api.Circuit, int, api.Errno) {
	if n < 0 || n > 128 {
		return api.Circuit{}, 0, api.ErrArg
	}
	if len(text) > 1<<20 {
		return api.Circuit{}, 0, api.ErrLong
	}
	if at, e := wrong(text, n); e != api.OK {
		return api.Circuit{}, at, e
	}
	var l []string
	for _, m := range marks(text) {
		l = append(l, m.text)
	}
	c := api.Circuit{N: n}
	emit(treeOf(l[:len(l)-1]), &c.L)
	if len(c.L) > 4096 {
		return api.Circuit{}, 0, api.ErrLong
	}
	return c, 0, api.OK
}

// written is the formula of a gate.
type written struct {
	text  string
	level int
	whole bool // false if the text is too long to be kept
}

// formulas returns the formulas of the gates of a valid circuit, by the definition.
func formulas(c api.Circuit) []written {
	l := make([]written, len(c.L))
	for i, g := range c.L {
		w := written{level: 7, whole: true}
		var in []string
		size := 0
		for _, k := range g.In {
			w.whole = w.whole && l[k].whole
			size += len(l[k].text) + 1
		}
		if w.whole = w.whole && size <= 2<<20; !w.whole {
			l[i] = w
			continue
		}
		w.level = map[int]int{api.GateAnd: 6, api.GateXor: 5, api.GateOr: 4, api.GateIff: 2}[g.Kind]
		if w.level == 0 || len(g.In) < 2 {
			w.level = 7
		}
		for j, k := range g.In {
			s := l[k].text
			positive := c.L[k].Kind == api.GateLit && c.L[k].Lit > 0
			if g.Kind == api.GateNot && (l[k].level != 7 || positive) || w.level > 3 && w.level < 7 && l[k].level <= w.level ||
				g.Kind == api.GateIff && j == 1 && l[k].level == 2 {
				s = "(" + s + ")"
			}
			in = append(in, s)
		}
		w.text = textOf(g, in)
		l[i] = w
	}
	return l
}

// textOf returns the formula of a gate from those of its inputs, which have the parentheses that they need.
func textOf(g api.Gate, in []string) string {
	sign := map[int]string{api.GateAnd: " & ", api.GateXor: " ^ ", api.GateOr: " | ", api.GateIff: " <-> "}[g.Kind]
	name := map[int]string{api.GateAnd: "and", api.GateXor: "xor", api.GateOr: "or", api.GateIf: "if"}[g.Kind]
	switch {
	case g.Kind == api.GateFalse:
		return "0"
	case g.Kind == api.GateTrue:
		return "1"
	case g.Kind == api.GateLit && g.Lit < 0:
		return "!x" + strconv.Itoa(-g.Lit)
	case g.Kind == api.GateLit:
		return "x" + strconv.Itoa(g.Lit)
	case g.Kind == api.GateNot:
		return "!" + in[0]
	case sign == "" || len(in) < 2:
		return name + "(" + strings.Join(in, ", ") + ")"
	}
	return strings.Join(in, sign)
}

// printed returns what Print returns for a valid circuit, by the definition.
func printed(c api.Circuit) (string, api.Errno) {
	w := formulas(c)[len(c.L)-1]
	if !w.whole || len(w.text) > 1<<20 {
		return "", api.ErrLong
	}
	return w.text, api.OK
}

// ways returns how many gates the tree form of a valid circuit has, or a great number if it has more than a million.
func ways(c api.Circuit) int {
	l := make([]int, len(c.L))
	for i, g := range c.L {
		l[i] = 1
		for _, k := range g.In {
			l[i] = min(l[i]+l[k], 1<<20)
		}
	}
	return l[len(l)-1]
}

// treeForm returns the tree form of a valid circuit.
func treeForm(c api.Circuit) api.Circuit {
	d := api.Circuit{N: c.N}
	var add func(i int) int
	add = func(i int) int {
		g := api.Gate{Kind: c.L[i].Kind, Lit: c.L[i].Lit}
		for _, k := range c.L[i].In {
			g.In = append(g.In, add(k))
		}
		d.L = append(d.L, g)
		return len(d.L) - 1
	}
	add(len(c.L) - 1)
	return d
}

// sameGate reports whether two gates are equal.
func sameGate(g, h api.Gate) bool {
	return g.Kind == h.Kind && g.Lit == h.Lit && slices.Equal(g.In, h.In)
}

// same reports whether two circuits are equal.
func same(c, d api.Circuit) bool {
	return c.N == d.N && slices.EqualFunc(c.L, d.L, sameGate)
}

// copied returns a circuit that shares no memory with c.
func copied(c api.Circuit) api.Circuit {
	d := api.Circuit{N: c.N, L: slices.Clone(c.L)}
	for i := range d.L {
		d.L[i].In = slices.Clone(d.L[i].In)
	}
	return d
}
