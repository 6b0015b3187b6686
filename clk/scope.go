package clk

import (
	"slices"

	"escapement/api"
	"escapement/syn"
)

// scope is the clock of each declared name, by its last step alone: a step's name has but one clock, so the row ahead of
// a step is known by it. The node's own clock, which has no steps, is the Step of noughts.
type scope map[string]Step

// scopeOf goes through what a node declares but once, for a node that was made of many may declare far more than a text
// may. Of several that have one name it takes the first, as names does. A local's On must stand ahead of it: so no row
// comes back to itself.
func scopeOf(n syn.Node) scope {
	s := scope{}
	for _, v := range slices.Concat(n.In, n.Out) {
		s[v.Name] = Step{}
	}
	for _, v := range n.Locals {
		_, taken := s[v.Name]
		_, known := s[v.On]
		switch {
		case taken:
		case v.On == "":
			s[v.Name] = Step{}
		case known:
			s[v.Name] = Step{Name: v.On, Not: v.Not}
		}
	}
	return s
}

// row is all steps of the clock whose last step that is.
func (s scope) row(last Step) []Step {
	var l []Step
	for last.Name != "" {
		l = append(l, last)
		last = s[last.Name]
	}
	slices.Reverse(l)
	return l
}

// clock is an expression's clock, by its last step, or any.
type clock struct {
	last Step
	any  bool
}

func fault(at int) api.Fault { return api.Fault{Err: api.ECLOCK, At: at} }

func (s scope) equation(q syn.Eq) api.Fault {
	c, f := s.expr(q.E)
	if f.Err != api.OK {
		return f
	}
	if own, declared := s[q.Name]; !declared || !fit([]clock{c}, own) {
		return fault(q.At)
	}
	return api.Fault{}
}

// expr tells an expression's clock, or its first fault.
func (s scope) expr(e syn.Expr) (clock, api.Fault) {
	var kids []clock
	for _, kid := range e.Kids {
		c, f := s.expr(kid)
		if f.Err != api.OK {
			return clock{}, f
		}
		kids = append(kids, c)
	}
	c, ok := s.rule(e, kids)
	if !ok {
		return clock{}, fault(e.At)
	}
	return c, api.Fault{}
}

// rule tells a part's clock by its kids' clocks, and whether these fit.
func (s scope) rule(e syn.Expr, kids []clock) (clock, bool) {
	own, declared := s[e.Name]
	switch e.Op {
	case "var":
		return clock{last: own}, declared
	case "when":
		return clock{last: Step{Name: e.Name, Not: e.N == 0}}, declared && fit(kids, own)
	case "merge":
		return clock{last: own}, declared && fit(kids, Step{Name: e.Name}, Step{Name: e.Name, Not: true})
	}
	return meet(kids)
}

// fit tells whether there are as many clocks as wanted ones, each of them that one, or any.
func fit(l []clock, wanted ...Step) bool {
	return slices.EqualFunc(l, wanted, func(c clock, w Step) bool { return c.any || c.last == w })
}

// meet is the one clock of all that are not any; any, if all are, as an int's kids, which are none.
func meet(l []clock) (clock, bool) {
	one := clock{any: true}
	for _, c := range l {
		if one.any {
			one = c
		}
		if !c.any && c != one {
			return clock{}, false
		}
	}
	return one, true
}
