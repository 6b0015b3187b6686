package emit

import (
	"escapement/api"
	"escapement/op"
	"escapement/syn"
)

// The Ops of expressions that are not what stands in a text between two.
const (
	opInt   = "int"
	opBool  = "bool"
	opVar   = "var"
	opNot   = "not"
	opNeg   = "neg"
	opPre   = "pre"
	opWhen  = "when"
	opIf    = "if"
	opMerge = "merge"
)

// expr works a part out, and tells its slot, which nobody writes any more. What the part stands in tells it its clock: so
// it matters not whether that is its own one, or because it may be there whenever it is wanted.
func (m *maker) expr(e syn.Expr, on clock) int {
	switch e.Op {
	case opInt, opBool:
		m.p.Consts = append(m.p.Consts, e.N)
		return m.result(m.kind(e), op.Const, len(m.p.Consts)-1, 0)
	case opVar:
		return m.name(e.Name)
	case opNot:
		return m.result(api.Bool, op.Not, m.expr(e.Kids[0], on), 0)
	case opNeg:
		return m.result(api.Int, op.Neg, m.expr(e.Kids[0], on), 0)
	case opPre:
		return m.before(e.Kids[0], on)
	case "->":
		first, then := m.expr(e.Kids[0], on), m.expr(e.Kids[1], on)
		return m.choice(m.first(on), first, then)
	case "fby":
		first, then := m.expr(e.Kids[0], on), m.before(e.Kids[1], on)
		m.turn(then, m.first(on), first)
		return then
	case opWhen:
		return m.expr(e.Kids[0], m.clockOf(e.Name))
	case opIf:
		by, left, right := m.expr(e.Kids[0], on), m.expr(e.Kids[1], on), m.expr(e.Kids[2], on)
		return m.choice(by, left, right)
	case opMerge:
		by, left, right := m.name(e.Name), m.expr(e.Kids[0], clock{e.Name, false}), m.expr(e.Kids[1], clock{e.Name, true})
		return m.choice(by, left, right)
	}
	return m.between(e, on)
}

// between works out what stands between two. The machine has not all signs: the others are these the other way round, or
// not so.
func (m *maker) between(e syn.Expr, on clock) int {
	left, right := m.expr(e.Kids[0], on), m.expr(e.Kids[1], on)
	if e.Op == ">" || e.Op == ">=" {
		left, right = right, left
	}
	s := m.result(m.kind(e), numberOf(e.Op), left, right)
	if e.Op == "<>" {
		m.add(op.Not, s, s, 0)
	}
	return s
}

func numberOf(sign string) int {
	switch sign {
	case "+":
		return op.Add
	case "-":
		return op.Sub
	case "*":
		return op.Mul
	case "/":
		return op.Div
	case "mod":
		return op.Mod
	case "=", "<>":
		return op.Eq
	case "<", ">":
		return op.Lt
	case "<=", ">=":
		return op.Le
	case "and":
		return op.And
	case "or":
		return op.Or
	}
	return op.Xor
}

// choice is the left one where by is so, else the right one.
func (m *maker) choice(by, left, right int) int {
	s := m.result(m.p.Slots[right], op.Move, right, 0)
	m.turn(s, by, left)
	return s
}

// turn lets a slot have what another has where by is so.
func (m *maker) turn(s, by, other int) {
	m.unless(by)
	m.add(op.Move, s, other, 0)
}

// unless passes over the one instruction that comes next where by is not so.
func (m *maker) unless(by int) {
	m.add(op.Unless, len(m.p.Code)+2, by, 0)
}

// kind is a part's kind, which memories need ahead of the part's being worked out.
func (m *maker) kind(e syn.Expr) api.Kind {
	switch e.Op {
	case opInt, opNeg, "+", "-", "*", "/", "mod":
		return api.Int
	case opVar:
		return m.vars[e.Name].Kind
	case opIf:
		return m.kind(e.Kids[1])
	case opPre, "->", "fby", opWhen, opMerge:
		return m.kind(e.Kids[0])
	}
	return api.Bool
}
