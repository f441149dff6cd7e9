package infix

import (
	"strconv"

	"census/api"
	"census/circ"
)

// printer has the text of what it has written of some gates.
type printer struct {
	gates []api.Gate
	text  []byte
}

// Print returns the formula of a circuit.
func Print(c api.Circuit) (string, api.Errno) {
	if e := circ.Check(c); e != api.OK {
		return "", e
	}
	p := &printer{gates: c.L}
	p.write(len(c.L) - 1)
	if p.tooLong() {
		return "", api.ErrLong
	}
	return string(p.text), api.OK
}

// tooLong reports whether the text has more bytes than a text may have.
func (p *printer) tooLong() bool { return len(p.text) > api.MaxText }

// put appends a part of a text.
func (p *printer) put(part string) { p.text = append(p.text, part...) }

// level returns the level of the formula of gate x.
func (p *printer) level(x int) int {
	g := p.gates[x]
	if len(g.In) < 2 {
		return levelSingle
	}
	switch g.Kind {
	case api.GateIff:
		return levelIff
	case api.GateOr:
		return levelOr
	case api.GateXor:
		return levelXor
	case api.GateAnd:
		return levelAnd
	}
	return levelSingle
}

// write appends the formula of gate x.
func (p *printer) write(x int) {
	// A formula can be much longer than the limit, as it repeats the gates that are inputs of several others.
	if p.tooLong() {
		return
	}
	g := p.gates[x]
	level := p.level(x)
	switch {
	case g.Kind == api.GateFalse:
		p.put("0")
	case g.Kind == api.GateTrue:
		p.put("1")
	case g.Kind == api.GateLit:
		p.writeLiteral(g.Lit)
	case g.Kind == api.GateNot:
		y := g.In[0]
		p.put("!")
		p.writePart(y, p.level(y) < levelSingle || p.gates[y].Lit > 0)
	case level == levelSingle:
		p.put(names[g.Kind] + "(")
		p.writeRow(g.In, ", ", func(int, int) bool { return false })
		p.put(")")
	case level == levelIff:
		p.writeRow(g.In, " "+signs[g.Kind]+" ", func(i, y int) bool { return i > 0 && p.level(y) == levelIff })
	default:
		p.writeRow(g.In, " "+signs[g.Kind]+" ", func(_, y int) bool { return p.level(y) <= level })
	}
}

// writeLiteral appends the formula of a literal.
func (p *printer) writeLiteral(x int) {
	if x < 0 {
		p.put("!")
	}
	p.put("x" + strconv.Itoa(max(x, -x)))
}

// writePart appends the formula of gate x, in parentheses or not.
func (p *printer) writePart(x int, inParentheses bool) {
	if !inParentheses {
		p.write(x)
		return
	}
	p.put("(")
	p.write(x)
	p.put(")")
}

// writeRow appends the formulas of inputs with a text between them, in parentheses those for which enclose is true; it is called with the place of an input and with the input.
func (p *printer) writeRow(in []int, between string, enclose func(i, x int) bool) {
	for i, x := range in {
		if i > 0 {
			p.put(between)
		}
		p.writePart(x, enclose(i, x))
	}
}
