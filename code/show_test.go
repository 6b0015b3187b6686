package code_test

import (
	"math"
	"strconv"
	"strings"
	"testing"

	"escapement/code"
)

// shown are the rows of the chapter's table, written out: an instruction with 10, 20 and 30 behind its Op.
var shown = []string{
	"const 10 20", "move 10 20", "load 10 20", "keep 10 20", "in 10 20", "out 10 20", "not 10 20", "neg 10 20",
	"add 10 20 30", "sub 10 20 30", "mul 10 20 30", "div 10 20 30", "mod 10 20 30",
	"eq 10 20 30", "lt 10 20 30", "le 10 20 30", "and 10 20 30", "or 10 20 30", "xor 10 20 30",
	"unless 10 20", "jump 10",
}

// noOps are numbers that no row has.
var noOps = []int{-1, -2, 21, 22, 64, 127, 128, 255, 256, 256 + 8, 1 << 16, 1 << 31, 1 << 32, 1<<32 + 8, -(1 << 32) + 8, math.MaxInt, math.MinInt}

// P14.1: each Op's name.
func TestName(t *testing.T) {
	for op, want := range shown {
		want, _, _ = strings.Cut(want, " ")
		if got := code.Name(op); got != want {
			t.Errorf("P14.1: Name(%d): %q, want %q", op, got, want)
		}
	}
}

// P14.1: the name, and the operands that the row names, no others.
func TestShow(t *testing.T) {
	for op, want := range shown {
		if got := code.Show(code.Instr{Op: op, A: 10, B: 20, C: 30}); got != want {
			t.Errorf("P14.1: Show of %d: %q, want %q", op, got, want)
		}
	}
	if got := code.Show(code.Instr{Op: 8, A: 1, B: 2, C: 3}); got != "add 1 2 3" {
		t.Errorf("P14.1: Show({8, 1, 2, 3}): %q", got)
	}
	if got := code.Show(code.Instr{}); got != "const 0 0" {
		t.Errorf("P14.1: Show of noughts: %q", got)
	}
}

// P14.1: another number is nothing, whatever its operands.
func TestShowOfNone(t *testing.T) {
	for _, op := range noOps {
		if got := code.Name(op); got != "" {
			t.Errorf("P14.1: Name(%d): %q", op, got)
		}
		for _, i := range []code.Instr{{Op: op}, {Op: op, A: 1, B: 2, C: 3}} {
			if got := code.Show(i); got != "" {
				t.Errorf("P14.1: Show(%v): %q", i, got)
			}
		}
	}
}

// P14.1, R7: operands may be any numbers, each is told in base ten and in its place.
func TestShowOfAnyOperands(t *testing.T) {
	for op, row := range shown {
		for _, v := range ints() {
			for place, old := range []string{"10", "20", "30"} {
				i := code.Instr{Op: op, A: 10, B: 20, C: 30}
				*[]*int{&i.A, &i.B, &i.C}[place] = v
				want := strings.Replace(row, " "+old, " "+strconv.Itoa(v), 1)
				if got := code.Show(i); got != want {
					t.Fatalf("P14.1: Show(%v): %q, want %q", i, got, want)
				}
			}
		}
	}
}

// R5: what was asked ahead changes nothing.
func TestShowTwice(t *testing.T) {
	for range 3 {
		for op, want := range shown {
			if got := code.Show(code.Instr{Op: op, A: 10, B: 20, C: 30}); got != want {
				t.Errorf("R5: Show of %d asked again: %q", op, got)
			}
			code.Show(code.Instr{Op: -op - 1, A: op})
		}
	}
}
