package ini

import (
	"slices"

	"escapement/syn"
)

// set is names.
type set map[string]struct{}

func (s set) add(name string) { s[name] = struct{}{} }

func (s set) has(name string) bool {
	_, ok := s[name]
	return ok
}

// lateOf is a node's late names. It goes from those that are late by a pre to whom these make late, and does not go down
// from name to name: a row of names may be far longer than expressions are deep, and may come back to itself, which makes
// none late.
func lateOf(n syn.Node) set {
	late := set{}
	users := map[string][]string{} // whom a name makes late
	var next []string
	for _, q := range defining(n) {
		for _, r := range roots(nil, q.E) {
			if r.Op == "pre" {
				next = append(next, q.Name)
			} else {
				users[r.Name] = append(users[r.Name], q.Name)
			}
		}
	}
	for len(next) > 0 {
		name := next[len(next)-1]
		next = next[:len(next)-1]
		if !late.has(name) {
			late.add(name)
			next = append(next, users[name]...)
		}
	}
	return late
}

// defining is each name's own equation. An input has none, and of several that have one name it is the first, as names
// has it.
func defining(n syn.Node) []syn.Eq {
	known := set{}
	for _, v := range n.In {
		known.add(v.Name)
	}
	var l []syn.Eq
	for _, q := range n.Eqs {
		if !known.has(q.Name) {
			known.add(q.Name)
			l = append(l, q)
		}
	}
	return l
}

// roots adds the pres and vars of which one must be late for the expression to be.
func roots(l []syn.Expr, e syn.Expr) []syn.Expr {
	switch e.Op {
	case "pre", "var":
		return append(l, e)
	case "not", "neg", "+", "-", "*", "/", "mod", "=", "<>", "<", "<=", ">", ">=", "and", "or", "xor", "if", "when":
		for _, kid := range e.Kids {
			l = roots(l, kid)
		}
	}
	return l
}

func isLate(late set, e syn.Expr) bool {
	return slices.ContainsFunc(roots(nil, e), func(r syn.Expr) bool { return r.Op == "pre" || late.has(r.Name) })
}
