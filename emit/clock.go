package emit

import (
	"escapement/api"
	"escapement/op"
	"escapement/syn"
)

// clock is a clock by its last step, a name, which has but one clock itself, and whether it is its falsehood. The one of
// noughts is the node's own clock, which is there at each tick.
type clock struct {
	name string
	not  bool
}

func (m *maker) clockOf(name string) clock {
	v := m.vars[name]
	return clock{v.On, v.Not}
}

// there is a slot that tells whether it is a tick of a clock, which is not the node's own.
func (m *maker) there(c clock) int {
	s, ok := m.theres[c]
	if ok {
		return s
	}
	number := op.Move
	if c.not {
		number = op.Not
	}
	s = m.result(api.Bool, number, m.name(c.name), 0)
	if around := m.clockOf(c.name); around != (clock{}) {
		m.add(op.And, s, s, m.there(around))
	}
	m.theres[c] = s
	return s
}

// first is a slot that tells whether a clock's first tick is not over: then what was kept of true at the tick ahead is
// false still.
func (m *maker) first(c clock) int {
	s, ok := m.firsts[c]
	if !ok {
		s = m.before(syn.Expr{Op: opBool, N: 1}, c)
		m.add(op.Not, s, s, 0)
		m.firsts[c] = s
	}
	return s
}

// held is what a memory keeps of one tick for the next.
type held struct {
	e  syn.Expr
	on clock
}

// before is a slot of its own with a part's value at its clock's tick ahead.
func (m *maker) before(e syn.Expr, on clock) int {
	kind := m.kind(e)
	m.p.Mems = append(m.p.Mems, kind)
	m.held = append(m.held, held{e, on})
	return m.result(kind, op.Load, len(m.p.Mems)-1, 0)
}

// keepAll fills the memories for the next tick. What they keep is worked out last, for it may hang on what they had; and
// some of it has memories of its own.
func (m *maker) keepAll() {
	for k := 0; k < len(m.held); k++ {
		h := m.held[k]
		s := m.expr(h.e, h.on)
		if h.on != (clock{}) {
			m.unless(m.there(h.on))
		}
		m.add(op.Keep, k, s, 0)
	}
}
