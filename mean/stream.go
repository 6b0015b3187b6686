package mean

import "escapement/syn"

// The Ops that are not what stands in a text between two.
const (
	opInt   = "int"
	opBool  = "bool"
	opVar   = "var"
	opCall  = "call"
	opNot   = "not"
	opNeg   = "neg"
	opPre   = "pre"
	opWhen  = "when"
	opIf    = "if"
	opMerge = "merge"
)

// stream is a part of an expression, made ready: it tells its value at a tick of an instance of its node. It is asked once
// at each of these, even where it is not there (and then its value counts for nothing): what stands beneath a when is there
// at more ticks than the when, and must not miss one.
type stream func(s *instance, there bool) int64

// stream makes a part ready. A part is told whether it is there by what it stands in: so it matters not whether that is so
// by its own clock, or because it may be there whenever it is wanted.
func (m *maker) stream(e syn.Expr) stream {
	switch e.Op {
	case opInt, opBool:
		return func(*instance, bool) int64 { return e.N }
	case opVar:
		k := m.ask(e.Name)
		return func(s *instance, _ bool) int64 { return s.values[k] }
	case opNot:
		kid := m.stream(e.Kids[0])
		return func(s *instance, there bool) int64 { return 1 - kid(s, there) }
	case opNeg:
		kid := m.stream(e.Kids[0])
		return func(s *instance, there bool) int64 { return -kid(s, there) }
	case opIf:
		return m.choice(e)
	case opPre:
		return m.pre(e.Kids[0])
	case "->":
		return m.arrow(m.stream(e.Kids[0]), m.stream(e.Kids[1]))
	case "fby":
		return m.arrow(m.stream(e.Kids[0]), m.pre(e.Kids[1]))
	case opWhen:
		return m.when(e)
	case opMerge:
		return m.merge(e)
	case opCall:
		return m.call(e)
	}
	return m.between(e)
}

func (m *maker) between(e syn.Expr) stream {
	left, right, two := m.stream(e.Kids[0]), m.stream(e.Kids[1]), operator(e.Op)
	return func(s *instance, there bool) int64 { return two(left(s, there), right(s, there)) }
}

func (m *maker) choice(e syn.Expr) stream {
	by, left, right := m.stream(e.Kids[0]), m.stream(e.Kids[1]), m.stream(e.Kids[2])
	return func(s *instance, there bool) int64 {
		isTrue, a, b := by(s, there) != 0, left(s, there), right(s, there)
		return chosen(isTrue, a, b)
	}
}

func chosen(isTrue bool, a, b int64) int64 {
	if isTrue {
		return a
	}
	return b
}

// pre tells its kid's value at the tick ahead. The kid itself is asked when all names have their values, as these may hang
// on what the pre tells.
func (m *maker) pre(kid syn.Expr) stream {
	k := len(m.kids)
	m.kids = append(m.kids, kid)
	return func(s *instance, there bool) int64 {
		p := &s.pres[k]
		p.there = there
		return p.last
	}
}

func (m *maker) arrow(first, then stream) stream {
	k := m.arrows
	m.arrows++
	return func(s *instance, there bool) int64 {
		isFirst, a, b := !s.begun[k], first(s, there), then(s, there)
		s.begun[k] = s.begun[k] || there
		return chosen(isFirst, a, b)
	}
}

func (m *maker) when(e syn.Expr) stream {
	by, kid := m.ask(e.Name), m.stream(e.Kids[0])
	return func(s *instance, _ bool) int64 { return kid(s, s.there[by]) }
}

func (m *maker) merge(e syn.Expr) stream {
	by, left, right := m.ask(e.Name), m.stream(e.Kids[0]), m.stream(e.Kids[1])
	return func(s *instance, _ bool) int64 {
		there, isTrue := s.there[by], s.values[by] != 0
		a, b := left(s, there && isTrue), right(s, there && !isTrue)
		return chosen(isTrue, a, b)
	}
}

func (m *maker) call(e syn.Expr) stream {
	k := len(m.calls)
	m.calls = append(m.calls, m.ahead[e.Name])
	var args []stream
	for _, kid := range e.Kids {
		args = append(args, m.stream(kid))
	}
	return func(s *instance, there bool) int64 {
		called := s.calls[k]
		for i, arg := range args {
			called.values[i] = arg(s, there)
		}
		if there {
			called.tick()
		}
		return called.values[called.plan.ins]
	}
}
