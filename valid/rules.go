package valid

import (
	"slices"

	"escapement/api"
	"escapement/code"
	"escapement/op"
)

// role is what an operand names.
type role int

const (
	nothing role = iota
	written      // a slot
	read         // a slot
	constant
	memory
	input
	output
	target
)

// roles are those of the operands of each Op.
var roles = [...][3]role{
	op.Const: {written, constant}, op.Move: {written, read}, op.Load: {written, memory}, op.Keep: {memory, read},
	op.In: {written, input}, op.Out: {output, read}, op.Not: {written, read}, op.Neg: {written, read},
	op.Add: {written, read, read}, op.Sub: {written, read, read}, op.Mul: {written, read, read}, op.Div: {written, read, read}, op.Mod: {written, read, read},
	op.Eq: {written, read, read}, op.Lt: {written, read, read}, op.Le: {written, read, read},
	op.And: {written, read, read}, op.Or: {written, read, read}, op.Xor: {written, read, read},
	op.Unless: {target, read}, op.Jump: {target},
}

func operands(i code.Instr) [3]int { return [...]int{i.A, i.B, i.C} }

func isWithinLimits(p code.Program) bool {
	return max(len(p.Slots), len(p.Mems), len(p.Consts)) <= api.MaxSlots &&
		max(len(p.Ins), len(p.Outs)) <= api.MaxVars &&
		len(p.Code) <= api.MaxCode &&
		areKinds(p.Ins) && areKinds(p.Outs) && areKinds(p.Slots) && areKinds(p.Mems)
}

func areKinds(l []api.Kind) bool {
	return !slices.ContainsFunc(l, func(k api.Kind) bool { return k != api.Bool && k != api.Int })
}

// isPlaced tells whether an instruction is one, and what it names is there.
func isPlaced(p code.Program, pc int, i code.Instr) bool {
	if i.Op < 0 || i.Op >= len(roles) {
		return false
	}
	for k, v := range operands(i) {
		from, to := places(p, pc, roles[i.Op][k])
		if roles[i.Op][k] != nothing && (v < from || v >= to) {
			return false
		}
	}
	return true
}

// places tells from which number on, and ahead of which, there is what an operand of that role names.
func places(p code.Program, pc int, r role) (from, to int) {
	switch r {
	case constant:
		return 0, len(p.Consts)
	case target:
		return pc + 1, len(p.Code) + 1
	}
	return 0, len(kinds(p, r))
}

// kinds are those of what an operand of that role names, if that has kinds.
func kinds(p code.Program, r role) []api.Kind {
	switch r {
	case written, read:
		return p.Slots
	case memory:
		return p.Mems
	case input:
		return p.Ins
	case output:
		return p.Outs
	}
	return nil
}

// fits tells whether what a placed instruction names is of kinds that fit.
func fits(p code.Program, i code.Instr) bool {
	var k [3]api.Kind
	for n, v := range operands(i) {
		if l := kinds(p, roles[i.Op][n]); l != nil {
			k[n] = l[v]
		}
	}
	switch i.Op {
	case op.Const:
		return k[0] == api.Int || p.Consts[i.B] == 0 || p.Consts[i.B] == 1
	case op.Move, op.Load, op.Keep, op.In, op.Out:
		return k[0] == k[1]
	case op.Not:
		return k == [...]api.Kind{api.Bool, api.Bool, api.None}
	case op.Neg:
		return k == [...]api.Kind{api.Int, api.Int, api.None}
	case op.Add, op.Sub, op.Mul, op.Div, op.Mod:
		return k == [...]api.Kind{api.Int, api.Int, api.Int}
	case op.Eq:
		return k[0] == api.Bool && k[1] == k[2]
	case op.Lt, op.Le:
		return k == [...]api.Kind{api.Bool, api.Int, api.Int}
	case op.And, op.Or, op.Xor:
		return k == [...]api.Kind{api.Bool, api.Bool, api.Bool}
	case op.Unless:
		return k[1] == api.Bool
	}
	return true
}
