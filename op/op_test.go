package op_test

import (
	"testing"

	"escapement/code"
	"escapement/op"
)

// P14.1: each number is that of its name in the table, and there are no more.
func TestNumbers(t *testing.T) {
	for number, name := range map[int]string{
		op.Const: "const", op.Move: "move", op.Load: "load", op.Keep: "keep", op.In: "in", op.Out: "out", op.Not: "not", op.Neg: "neg",
		op.Add: "add", op.Sub: "sub", op.Mul: "mul", op.Div: "div", op.Mod: "mod", op.Eq: "eq", op.Lt: "lt", op.Le: "le",
		op.And: "and", op.Or: "or", op.Xor: "xor", op.Unless: "unless", op.Jump: "jump",
	} {
		if got := code.Name(number); got != name {
			t.Errorf("P14.1: number %d is %q, want %q", number, got, name)
		}
	}
	if got := code.Name(op.Jump + 1); got != "" {
		t.Errorf("P14.1: %q has no number here", got)
	}
}
