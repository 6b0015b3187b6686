package typ

import (
	"slices"

	"escapement/api"
	"escapement/names"
	"escapement/syn"
)

// scope is whom the expressions of a node may name.
type scope struct {
	ahead []syn.Node          // who may be called
	kinds map[string]api.Kind // of what is declared
}

// scopeOf goes through what a node declares but once, for a node that was made of many may declare far more than a text
// may. Of several that have one name it takes the first, as names does.
func scopeOf(l []syn.Node, node int) scope {
	n := l[node]
	s := scope{ahead: l[:node], kinds: map[string]api.Kind{}}
	for _, v := range slices.Concat(n.In, n.Out, n.Locals) {
		if _, ok := s.kinds[v.Name]; !ok {
			s.kinds[v.Name] = v.Kind
		}
	}
	return s
}

func fault(at int) api.Fault { return api.Fault{Err: api.ETYPE, At: at} }

// node asks all of the node whose scope it is.
func (s scope) node(n syn.Node) api.Fault {
	for _, v := range n.Locals {
		if v.On != "" && s.kinds[v.On] != api.Bool {
			return fault(v.At)
		}
	}
	for _, q := range n.Eqs {
		if f := s.equation(q); f.Err != api.OK {
			return f
		}
	}
	return api.Fault{}
}

func (s scope) equation(q syn.Eq) api.Fault {
	k, f := s.kind(q.E)
	if f.Err == api.OK && k != s.kinds[q.Name] {
		return fault(q.At)
	}
	return f
}

// kind tells an expression's kind; none, and its first fault, if it has one.
func (s scope) kind(e syn.Expr) (api.Kind, api.Fault) {
	var kids []api.Kind
	var last api.Kind
	for _, kid := range e.Kids {
		k, f := s.kind(kid)
		if f.Err != api.OK {
			return api.None, f
		}
		kids, last = append(kids, k), k
	}
	wanted, k := s.rule(e, last)
	if k == api.None || !slices.Equal(kids, wanted) {
		return api.None, fault(e.At)
	}
	return k, api.Fault{}
}

// rule tells which kinds a part wants its kids to be of, and of which it is then: none, if it fits with no kids. Where
// kids must be alike, they must be as the last one is; its kind is last.
func (s scope) rule(e syn.Expr, last api.Kind) ([]api.Kind, api.Kind) {
	switch e.Op {
	case "int":
		return nil, api.Int
	case "bool":
		return nil, api.Bool
	case "var":
		return nil, s.kinds[e.Name]
	case "not":
		return []api.Kind{api.Bool}, api.Bool
	case "neg":
		return []api.Kind{api.Int}, api.Int
	case "pre":
		return []api.Kind{last}, last
	case "+", "-", "*", "/", "mod":
		return []api.Kind{api.Int, api.Int}, api.Int
	case "=", "<>":
		return []api.Kind{last, last}, api.Bool
	case "<", "<=", ">", ">=":
		return []api.Kind{api.Int, api.Int}, api.Bool
	case "and", "or", "xor":
		return []api.Kind{api.Bool, api.Bool}, api.Bool
	case "->", "fby":
		return []api.Kind{last, last}, last
	case "when":
		return []api.Kind{last}, s.chosen(e.Name, last)
	case "if":
		return []api.Kind{api.Bool, last, last}, last
	case "merge":
		return []api.Kind{last, last}, s.chosen(e.Name, last)
	case "call":
		return s.call(e.Name)
	}
	return nil, api.None
}

// chosen is that kind, if the name by which it is chosen is a bool.
func (s scope) chosen(by string, k api.Kind) api.Kind {
	if s.kinds[by] != api.Bool {
		return api.None
	}
	return k
}

// call tells the kinds of a node's inputs, and of its only output.
func (s scope) call(name string) ([]api.Kind, api.Kind) {
	i := names.Node(s.ahead, name)
	if i < 0 || len(s.ahead[i].Out) != 1 {
		return nil, api.None
	}
	var wanted []api.Kind
	for _, v := range s.ahead[i].In {
		wanted = append(wanted, v.Kind)
	}
	return wanted, s.ahead[i].Out[0].Kind
}
