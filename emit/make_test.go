package emit_test

import (
	"math/rand"
	"slices"
	"strconv"
	"strings"

	"escapement/api"
	"escapement/syn"
)

// spot is where a part may stand: its kind, and its clock as a row of names, each with a blank ahead, and a ! if it is its
// falsehood.
type spot struct {
	kind  api.Kind
	clock string
}

// declared is a name, and what is known of it: at one tick it leans on names of lower ranks alone.
type declared struct {
	syn.Var
	clock string
	rank  int
	late  bool
}

func (d declared) spot() spot { return spot{d.Kind, d.clock} }

// maker makes nodes without calls at random that have no fault.
type maker struct {
	r     *rand.Rand
	names []declared
	rank  int // of whose equation is made; above all, beneath what holds a value of the tick ahead
	left  int // how many parts more there may be
}

const allRanks = 1 << 20

func pick[T any](m *maker, l []T) T { return l[m.r.Intn(len(l))] }

func (m *maker) kind() api.Kind { return pick(m, []api.Kind{api.Bool, api.Int, api.Int}) }

// named are the names that may be asked for there.
func (m *maker) named(at spot, late bool) []declared {
	return slices.DeleteFunc(slices.Clone(m.names), func(d declared) bool { return d.spot() != at || d.rank >= m.rank || d.late && !late })
}

func one(op string, kids ...syn.Expr) syn.Expr { return syn.Expr{Op: op, Kids: kids} }

// part makes an expression, of which late tells whether it may be so.
func (m *maker) part(at spot, depth int, late bool) syn.Expr {
	sort := m.r.Intn(12)
	if depth == 0 || m.left <= 0 {
		sort = m.r.Intn(2)
	}
	m.left--
	names, bools := m.named(at, late), m.named(spot{api.Bool, at.clock}, false)
	kid := func(k api.Kind) syn.Expr { return m.part(spot{k, at.clock}, depth-1, late) }
	switch {
	case sort <= 1 && len(names) > 0 && m.r.Intn(4) > 0:
		return syn.Expr{Op: "var", Name: pick(m, names).Name}
	case sort == 2 && late:
		return one("pre", m.then(at, depth))
	case sort == 3:
		return one("fby", m.part(at, depth-1, false), m.then(at, depth))
	case sort == 4:
		return one("->", m.part(at, depth-1, false), m.part(at, depth-1, true))
	case sort == 5:
		return one("if", kid(api.Bool), kid(at.kind), kid(at.kind))
	case sort == 6 && len(bools) > 0:
		by := pick(m, bools).Name
		return syn.Expr{Op: "merge", Name: by, Kids: []syn.Expr{m.part(spot{at.kind, at.clock + " " + by}, depth-1, false), m.part(spot{at.kind, at.clock + " !" + by}, depth-1, false)}}
	case (sort == 7 || sort == 8) && at.clock != "":
		k := strings.LastIndex(at.clock, " ")
		by, not := strings.CutPrefix(at.clock[k+1:], "!")
		return syn.Expr{Op: "when", Name: by, N: map[bool]int64{false: 1}[not], Kids: []syn.Expr{m.part(spot{at.kind, at.clock[:k]}, depth-1, late)}}
	case sort >= 2:
		return m.operator(at.kind, kid)
	case at.kind == api.Bool:
		return syn.Expr{Op: "bool", N: m.r.Int63n(2)}
	}
	return syn.Expr{Op: "int", N: pick(m, []int64{0, 1, 2, 3, 10, 3037000500, 9223372036854775807})}
}

// then makes what is kept for the next tick: of any name that is not late.
func (m *maker) then(at spot, depth int) syn.Expr {
	rank := m.rank
	m.rank = allRanks
	e := m.part(at, depth-1, false)
	m.rank = rank
	return e
}

func (m *maker) operator(k api.Kind, kid func(k api.Kind) syn.Expr) syn.Expr {
	two := func(k api.Kind, ops ...string) syn.Expr { return one(pick(m, ops), kid(k), kid(k)) }
	sort := m.r.Intn(4)
	switch {
	case k == api.Int && sort > 0:
		return two(api.Int, "+", "-", "*", "/", "mod")
	case k == api.Int:
		return one("neg", kid(api.Int))
	case sort == 0:
		return one("not", kid(api.Bool))
	case sort == 1:
		return two(api.Bool, "and", "or", "xor", "=", "<>")
	}
	return two(api.Int, "=", "<>", "<", "<=", ">", ">=")
}

// declare gives a new name, like those that lex would not take; on is the number of the name whose step it is on, or -1.
func (m *maker) declare(kind api.Kind, rank, on int, late bool) syn.Var {
	d := declared{Var: syn.Var{Name: strconv.Itoa(len(m.names)*7%10) + "." + strconv.Itoa(len(m.names)), Kind: kind}, rank: rank, late: late}
	if on >= 0 {
		by := m.names[on]
		d.On, d.Not, d.rank = by.Name, m.r.Intn(2) == 0, max(rank, by.rank+1)
		d.clock = by.clock + " " + map[bool]string{true: "!"}[d.Not] + by.Name
	}
	m.names = append(m.names, d)
	return d.Var
}

// step is the number of a name that may be a step, or -1.
func (m *maker) step() int {
	var all []int
	for k, d := range m.names {
		if d.Kind == api.Bool && !d.late {
			all = append(all, k)
		}
	}
	if len(all) == 0 || m.r.Intn(3) == 0 {
		return -1
	}
	return pick(m, all)
}

// node makes a node, of about so many parts.
func (m *maker) node(ins, outs, locals, parts int) syn.Node {
	m.names, m.left = nil, parts
	n := syn.Node{Name: "f"}
	for range ins {
		n.In = append(n.In, m.declare(m.kind(), -1, -1, false))
	}
	for range outs {
		n.Out = append(n.Out, m.declare(m.kind(), m.r.Intn(100), -1, false))
	}
	for range locals {
		n.Locals = append(n.Locals, m.declare(m.kind(), m.r.Intn(100), m.step(), m.r.Intn(4) == 0))
	}
	for _, k := range m.r.Perm(outs + locals) {
		d := m.names[ins+k]
		m.rank = d.rank
		n.Eqs = append(n.Eqs, syn.Eq{Name: d.Name, E: m.part(d.spot(), 1+m.r.Intn(6), d.late)})
	}
	return n
}

// rows makes rows that fit.
func (m *maker) rows(vars []syn.Var, count int) []api.Row {
	var l []api.Row
	for range count {
		r := api.Row{}
		for _, v := range vars {
			n := m.r.Int63n(2)
			switch {
			case v.Kind == api.Int && m.r.Intn(8) == 0:
				n = pick(m, []int64{-9223372036854775808, -4294967296, 3037000500, 9223372036854775807})
			case v.Kind == api.Int:
				n = m.r.Int63n(20) - 8
			}
			r = append(r, n)
		}
		l = append(l, r)
	}
	return l
}
