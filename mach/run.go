package mach

import (
	"escapement/api"
	"escapement/op"
)

// run does the instructions. As the program is valid, all that they name is there, and each goes on behind itself: so it
// asks for none of that.
func (m *Machine) run(in api.Row) api.Row {
	slots := make([]int64, len(m.p.Slots))
	out := make(api.Row, len(m.p.Outs))
	for next := 0; next < len(m.p.Code); {
		i := m.p.Code[next]
		next++
		switch i.Op {
		case op.Const:
			slots[i.A] = m.p.Consts[i.B]
		case op.Move:
			slots[i.A] = slots[i.B]
		case op.Load:
			slots[i.A] = m.mems[i.B]
		case op.Keep:
			m.mems[i.A] = slots[i.B]
		case op.In:
			slots[i.A] = in[i.B]
		case op.Out:
			out[i.A] = slots[i.B]
		case op.Not:
			slots[i.A] = 1 - slots[i.B]
		case op.Neg:
			slots[i.A] = -slots[i.B]
		case op.Unless:
			if slots[i.B] == 0 {
				next = i.A
			}
		case op.Jump:
			next = i.A
		default:
			slots[i.A] = reckoned(i.Op, slots[i.B], slots[i.C])
		}
	}
	return out
}

// reckoned is what an Op makes of two values.
func reckoned(number int, a, b int64) int64 {
	switch number {
	case op.Add:
		return a + b
	case op.Sub:
		return a - b
	case op.Mul:
		return a * b
	case op.Div:
		if b == 0 {
			return 0
		}
		return a / b
	case op.Mod:
		if b == 0 {
			return 0
		}
		return a % b
	case op.Eq:
		return truth(a == b)
	case op.Lt:
		return truth(a < b)
	case op.Le:
		return truth(a <= b)
	case op.And:
		return a & b
	case op.Or:
		return a | b
	}
	return a ^ b
}

func truth(is bool) int64 {
	if is {
		return 1
	}
	return 0
}
