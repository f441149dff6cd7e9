package infix

import (
	"census/api"
	"census/circ"
)

// fault is what a parser panics with: where a text is wrong, and how.
type fault struct {
	at int
	e  api.Errno
}

// parser has read a text up to a token, and has the gates of what it has read.
type parser struct {
	text  string
	n     int    // how many variables there are
	at    int    // where the next token begins
	token string // the next token; empty at the end of the text, and where no token begins
	open  int    // how many tokens are open
	gates []api.Gate
}

// Parse returns the circuit of a formula, or the index of the byte at which it is wrong.
func Parse(text string, n int) (c api.Circuit, at int, e api.Errno) {
	switch {
	case n < 0 || n > api.MaxVars:
		return api.Circuit{}, 0, api.ErrArg
	case len(text) > api.MaxText:
		return api.Circuit{}, 0, api.ErrLong
	}
	defer func() {
		switch f := recover().(type) {
		case nil:
		case fault:
			c, at, e = api.Circuit{}, f.at, f.e
		default:
			panic(f)
		}
	}()
	p := &parser{text: text, n: n}
	p.whole()
	c = api.Circuit{N: n, L: p.gates}
	if e := circ.Check(c); e != api.OK {
		return api.Circuit{}, 0, e
	}
	return c, 0, api.OK
}

// fail ends the reading at the next token.
func (p *parser) fail(e api.Errno) { panic(fault{at: p.at, e: e}) }

// add appends a gate and returns its index.
func (p *parser) add(g api.Gate) int {
	p.gates = append(p.gates, g)
	return len(p.gates) - 1
}

// whole reads a formula that is all of the text.
func (p *parser) whole() {
	p.next()
	p.formula()
	if p.at < len(p.text) {
		p.fail(api.ErrForm)
	}
}

// formula reads a formula of any level; like the methods below, it returns the index of its gate.
func (p *parser) formula() int {
	x := p.implication()
	for p.accept(signs[api.GateIff]) {
		y := p.implication()
		x = p.add(api.Gate{Kind: api.GateIff, In: []int{x, y}})
	}
	return x
}

// implication reads a formula of level 3 or more.
func (p *parser) implication() int {
	parts := []int{p.or()}
	for p.accept("->") {
		parts = append(parts, p.or())
	}
	last := len(parts) - 1
	x := parts[last]
	for i := last - 1; i >= 0; i-- {
		no := p.add(api.Gate{Kind: api.GateNot, In: []int{parts[i]}})
		x = p.add(api.Gate{Kind: api.GateOr, In: []int{no, x}})
	}
	return x
}

func (p *parser) or() int { return p.row(api.GateOr, p.xor) }

func (p *parser) xor() int { return p.row(api.GateXor, p.and) }

func (p *parser) and() int { return p.row(api.GateAnd, p.single) }

// row reads one formula, or several with the sign of a kind of gate between them, each of them by part.
func (p *parser) row(kind int, part func() int) int {
	in := []int{part()}
	for p.accept(signs[kind]) {
		in = append(in, part())
	}
	if len(in) == 1 {
		return in[0]
	}
	return p.add(api.Gate{Kind: kind, In: in})
}

// single reads a formula of level 7.
func (p *parser) single() int {
	switch p.token {
	case "0":
		return p.constant(api.GateFalse)
	case "1":
		return p.constant(api.GateTrue)
	case "!":
		return p.negation()
	case "(":
		return p.group()
	case names[api.GateAnd]:
		return p.call(api.GateAnd, p.list)
	case names[api.GateOr]:
		return p.call(api.GateOr, p.list)
	case names[api.GateXor]:
		return p.call(api.GateXor, p.list)
	case names[api.GateIf]:
		return p.call(api.GateIf, p.three)
	}
	return p.literal(1)
}

// constant reads the word of a gate without inputs.
func (p *parser) constant(kind int) int {
	p.next()
	return p.add(api.Gate{Kind: kind})
}

// literal reads a variable; the literal is positive if sign is 1, and negative if it is -1.
func (p *parser) literal(sign int) int {
	v := p.variable()
	if v == 0 {
		p.fail(api.ErrForm)
	}
	p.next()
	return p.add(api.Gate{Kind: api.GateLit, Lit: sign * v})
}

// negation reads a ! and its formula.
func (p *parser) negation() int {
	p.enter()
	var x int
	if p.variable() > 0 {
		x = p.literal(-1)
	} else {
		x = p.add(api.Gate{Kind: api.GateNot, In: []int{p.single()}})
	}
	p.open--
	return x
}

// group reads a formula in parentheses.
func (p *parser) group() int {
	var x int
	p.enclosed(func() { x = p.formula() })
	return x
}

// call reads a name and the formulas in parentheses behind it, these by inputs.
func (p *parser) call(kind int, inputs func() []int) int {
	var in []int
	p.next()
	p.enclosed(func() { in = inputs() })
	return p.add(api.Gate{Kind: kind, In: in})
}

// list reads any number of formulas.
func (p *parser) list() []int {
	if p.token == ")" {
		return nil
	}
	in := []int{p.formula()}
	for p.accept(",") {
		in = append(in, p.formula())
	}
	return in
}

// three reads three formulas.
func (p *parser) three() []int {
	in := []int{p.formula()}
	for len(in) < 3 {
		p.demand(",")
		in = append(in, p.formula())
	}
	return in
}

// enclosed reads parentheses, and what stands in them by read.
func (p *parser) enclosed(read func()) {
	if p.token != "(" {
		p.fail(api.ErrForm)
	}
	p.enter()
	read()
	p.demand(")")
	p.open--
}
