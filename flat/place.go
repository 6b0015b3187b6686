package flat

import (
	"strconv"

	"escapement/syn"
)

// The Ops that have a name.
const (
	opVar   = "var"
	opCall  = "call"
	opWhen  = "when"
	opMerge = "merge"
)

// place is a node where it stands in the flat one, the main node or that of a call: what each of its own names is there.
type place map[string]syn.Var

// step is a clock, by its last step: a name, which has but one clock itself, and whether it is its falsehood. The one of
// noughts is the main node's own clock.
type step struct {
	name string
	not  bool
}

// maker makes the flat node.
type maker struct {
	nodes map[string]syn.Node
	calls int // how many there were as yet
	flat  syn.Node
}

// local declares a name as a local on that clock.
func (m *maker) local(prefix string, v syn.Var, on step) syn.Var {
	v = syn.Var{Name: prefix + v.Name, Kind: v.Kind, On: on.name, Not: on.not}
	m.flat.Locals = append(m.flat.Locals, v)
	return v
}

// fill lays a node's locals and equations into the place that has its inputs and outputs; own: its own clock there. All
// names of a node are declared ahead of those of its calls, which may have them as their Ons.
func (m *maker) fill(p place, prefix string, n syn.Node, own step) {
	for _, v := range n.Locals {
		on := own
		if v.On != "" {
			on = step{p[v.On].Name, v.Not}
		}
		p[v.Name] = m.local(prefix, v, on)
	}
	for _, q := range n.Eqs {
		v := p[q.Name]
		m.define(v, m.expr(p, q.E, clockOf(v)))
	}
}

func (m *maker) define(v syn.Var, e syn.Expr) {
	m.flat.Eqs = append(m.flat.Eqs, syn.Eq{Name: v.Name, E: e})
}

func clockOf(v syn.Var) step { return step{v.On, v.Not} }

// expr is an expression as it stands in the flat node. What it stands in tells it its clock: so it matters not whether
// that is its own one, or because it may be there whenever it is wanted; a call needs one in each case.
func (m *maker) expr(p place, e syn.Expr, own step) syn.Expr {
	var kids []syn.Expr
	for k, kid := range e.Kids {
		kids = append(kids, m.expr(p, kid, p.kidClock(e, k, own)))
	}
	if e.Op == opCall {
		return m.call(m.nodes[e.Name], kids, own)
	}
	return syn.Expr{Op: e.Op, Name: p[e.Name].Name, N: e.N, Kids: kids}
}

// kidClock is the clock of a kid of an expression that is on that clock.
func (p place) kidClock(e syn.Expr, k int, own step) step {
	switch e.Op {
	case opWhen:
		return clockOf(p[e.Name])
	case opMerge:
		return step{p[e.Name].Name, k == 1}
	}
	return own
}

// call lays a node where it is called, with names that no text's are, and tells its output. An input is the name that
// stands for it, if that is one: it is on the call's clock. Anything else has a local for it, for it may have a state, and
// the node may ask for it twice, or as a step.
func (m *maker) call(n syn.Node, args []syn.Expr, own step) syn.Expr {
	m.calls++
	prefix := strconv.Itoa(m.calls) + "."
	p := place{}
	for k, v := range n.In {
		if args[k].Op == opVar {
			p[v.Name] = syn.Var{Name: args[k].Name, On: own.name, Not: own.not}
			continue
		}
		p[v.Name] = m.local(prefix, v, own)
		m.define(p[v.Name], args[k])
	}
	for _, v := range n.Out {
		p[v.Name] = m.local(prefix, v, own)
	}
	m.fill(p, prefix, n, own)
	return syn.Expr{Op: opVar, Name: p[n.Out[0].Name].Name}
}
