package circ

import (
	"census/api"
	"census/lit"
	"census/vars"
)

// Eval reports whether a is a model of c.
func Eval(c api.Circuit, a api.Set) bool {
	if Check(c) != api.OK || !vars.Sub(a, vars.All(c.N)) {
		return false
	}
	values := make([]bool, len(c.L))
	for i, g := range c.L {
		values[i] = value(g, a, values)
	}
	return values[len(values)-1]
}

// value returns the value of g under a, where values has those of its inputs.
func value(g api.Gate, a api.Set, values []bool) bool {
	count := 0
	for _, x := range g.In {
		if values[x] {
			count++
		}
	}
	switch g.Kind {
	case api.GateTrue:
		return true
	case api.GateLit:
		return lit.Holds(a, g.Lit)
	case api.GateNot:
		return count == 0
	case api.GateAnd:
		return count == len(g.In)
	case api.GateOr:
		return count > 0
	case api.GateXor:
		return count%2 == 1
	case api.GateIff:
		return count != 1
	case api.GateIf:
		if values[g.In[0]] {
			return values[g.In[1]]
		}
		return values[g.In[2]]
	}
	return false
}
