package mean

import (
	"slices"

	"escapement/syn"
)

// always is the number of no name: what hangs on it is there at each tick.
const always = -1

// plan is a node made ready to tick, once for all of its instances: its names are known by their numbers (inputs, outputs,
// locals, as they are declared), and so are the parts that keep something from tick to tick.
type plan struct {
	ins, outs, names int
	eqs              []equation // each behind those whose names it asks for at once
	pres             []stream   // their kids, each behind that of the pre it stands beneath
	arrows           int
	calls            []plan // of whom each place of a call calls
}

type equation struct {
	name int
	on   int
	not  bool
	e    stream
}

// planOf is the last node's plan.
func planOf(l []syn.Node) plan {
	plans := map[string]plan{}
	var last plan
	for _, n := range l {
		last = newPlan(n, plans)
		plans[n.Name] = last
	}
	return last
}

// maker makes a node's plan.
type maker struct {
	plan
	ahead   map[string]plan
	vars    []syn.Var
	numbers map[string]int
	waiting map[int]syn.Expr // what is to be made as yet, by the names' numbers
	kids    []syn.Expr       // the pres'
}

func newPlan(n syn.Node, ahead map[string]plan) plan {
	m := &maker{ahead: ahead, vars: slices.Concat(n.In, n.Out, n.Locals), numbers: map[string]int{}, waiting: map[int]syn.Expr{}}
	m.ins, m.outs, m.names = len(n.In), len(n.Out), len(m.vars)
	for k, v := range m.vars {
		m.numbers[v.Name] = k
	}
	for _, q := range n.Eqs {
		m.waiting[m.numbers[q.Name]] = q.E
	}
	for k := range m.vars {
		m.ready(k)
	}
	// These come last, for a pre's kid may name whom its equation may not lean on; and some have pres with kids in them.
	for k := 0; k < len(m.kids); k++ {
		m.pres = append(m.pres, m.stream(m.kids[k]))
	}
	return m.plan
}

// ask is the number of a name, which will have its value ahead of what asks for it.
func (m *maker) ask(name string) int {
	k := m.numbers[name]
	m.ready(k)
	return k
}

// ready makes a name's equation, if it has one that waits, behind those of the names that it asks for.
func (m *maker) ready(k int) {
	e, ok := m.waiting[k]
	if !ok {
		return
	}
	delete(m.waiting, k)
	q := equation{name: k, on: always, not: m.vars[k].Not}
	if on := m.vars[k].On; on != "" {
		q.on = m.ask(on)
	}
	q.e = m.stream(e)
	m.eqs = append(m.eqs, q)
}
