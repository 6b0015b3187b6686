package mean

import (
	"slices"

	"escapement/api"
)

// instance is a place where a node ticks: the main node's, or a call's.
type instance struct {
	plan   plan
	values []int64 // the names', at this tick
	there  []bool  // which names have one
	pres   []pre
	begun  []bool // which arrows are past their clocks' first tick
	calls  []*instance
}

// pre is what one keeps of its kid.
type pre struct {
	last  int64
	there bool // whether the pre is, at this tick
}

func (p plan) instance() *instance {
	s := &instance{plan: p, values: make([]int64, p.names), there: make([]bool, p.names), pres: make([]pre, len(p.pres)), begun: make([]bool, p.arrows)}
	for k := range p.ins {
		s.there[k] = true
	}
	for _, called := range p.calls {
		s.calls = append(s.calls, called.instance())
	}
	return s
}

// tick works out all names' values, behind those of the inputs, which stand there; then what the next tick asks for.
func (s *instance) tick() {
	for _, q := range s.plan.eqs {
		s.there[q.name] = q.on == always || s.there[q.on] && (s.values[q.on] == 0) == q.not
		s.values[q.name] = q.e(s, s.there[q.name])
	}
	for k, kid := range s.plan.pres {
		p := &s.pres[k]
		if v := kid(s, p.there); p.there {
			p.last = v
		}
	}
}

// rows ticks once for each row.
func (s *instance) rows(in []api.Row) []api.Row {
	var out []api.Row
	for _, r := range in {
		copy(s.values, r)
		s.tick()
		out = append(out, slices.Clone(s.values[s.plan.ins:s.plan.ins+s.plan.outs]))
	}
	return out
}
