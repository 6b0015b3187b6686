package ini

import (
	"slices"

	"escapement/api"
	"escapement/syn"
)

// checker is what is known of a node's names.
type checker struct {
	late   set
	wanted set // at the first tick: outputs, and locals' Ons
}

func checkerOf(n syn.Node) checker {
	c := checker{late: lateOf(n), wanted: set{}}
	for _, v := range n.Out {
		c.wanted.add(v.Name)
	}
	for _, v := range n.Locals {
		if v.On != "" {
			c.wanted.add(v.On)
		}
	}
	return c
}

func fault(at int) api.Fault { return api.Fault{Err: api.EINIT, At: at} }

func (c checker) equation(q syn.Eq) api.Fault {
	if f := c.part(q.E); f.Err != api.OK {
		return f
	}
	if c.wanted.has(q.Name) && c.late.has(q.Name) {
		return fault(q.At)
	}
	return api.Fault{}
}

// part asks a part's kids, and then itself.
func (c checker) part(e syn.Expr) api.Fault {
	for _, kid := range e.Kids {
		if f := c.part(kid); f.Err != api.OK {
			return f
		}
	}
	if c.isEarly(e) {
		return fault(e.At)
	}
	return api.Fault{}
}

// isEarly tells whether a part uses a value ahead of there being one. It goes through its kids anew, and yet in all no
// part is gone through again and again: each part that asks of its kids ends the going through for those around it.
func (c checker) isEarly(e syn.Expr) bool {
	switch e.Op {
	case "->":
		return c.someLate(e.Kids[:min(1, len(e.Kids))])
	case "pre", "fby", "call":
		return c.someLate(e.Kids)
	case "when":
		return c.late.has(e.Name)
	case "merge":
		return c.late.has(e.Name) || c.someLate(e.Kids)
	}
	return false
}

func (c checker) someLate(l []syn.Expr) bool {
	return slices.ContainsFunc(l, func(e syn.Expr) bool { return isLate(c.late, e) })
}
