package code_test

import (
	"bytes"
	"math"
	"math/rand"
	"testing"

	"escapement/api"
	"escapement/code"
)

// checkSame asks Same both ways.
func checkSame(t *testing.T, what string, p, q code.Program, want bool) {
	t.Helper()
	if code.Same(p, q) != want || code.Same(q, p) != want {
		t.Errorf("P14.1: Same, %s: not %v", what, want)
	}
}

// P14.1: each program is the same as itself, and as one like it in other memory.
func TestSame(t *testing.T) {
	for _, p := range some() {
		checkSame(t, "itself", p, p, true)
		checkSame(t, "a copy", p, copied(p), true)
	}
}

// P14.1: nil and an empty list have the same bytes.
func TestSameOfEmpty(t *testing.T) {
	empty := code.Program{Ins: []api.Kind{}, Outs: []api.Kind{}, Slots: []api.Kind{}, Mems: []api.Kind{}, Consts: []int64{}, Code: []code.Instr{}}
	checkSame(t, "nil and empty lists", code.Program{}, empty, true)
	checkSame(t, "a list with room alone", code.Program{Ins: make([]api.Kind, 0, 5)}, empty, true)
}

// P14.1: another number anywhere is another program, that of an operand that the row does not name too.
func TestSameOfOthers(t *testing.T) {
	for place, set := range setters() {
		for _, v := range []int{0, 1, 77, -77, math.MaxInt - 1, math.MinInt + 1} {
			q := full()
			set(&q, v)
			if want := alike(full(), q); code.Same(full(), q) != want || code.Same(q, full()) != want {
				t.Errorf("P14.1: Same, with %d at place %d: not %v", v, place, want)
			}
		}
	}
	jump := code.Program{Code: []code.Instr{{Op: 20, A: 1}}}
	for _, i := range []code.Instr{{Op: 20, A: 1, B: 1}, {Op: 20, A: 1, C: 1}} {
		checkSame(t, "an operand that jump does not name", jump, code.Program{Code: []code.Instr{i}}, false)
	}
}

// P14.1: the same items in other lists, in another order, or more or fewer of them.
func TestSameOfListsElsewhere(t *testing.T) {
	one, two := []api.Kind{1}, []api.Kind{1, 1}
	l := []code.Program{
		{}, {Ins: one}, {Outs: one}, {Slots: one}, {Mems: one}, {Consts: []int64{1}}, {Code: []code.Instr{{Op: 1}}},
		{Ins: two}, {Outs: two}, {Slots: two}, {Mems: two}, {Consts: []int64{1, 1}}, {Code: []code.Instr{{Op: 1}, {Op: 1}}},
		{Ins: one, Outs: one}, {Outs: one, Slots: one}, {Slots: one, Mems: one}, {Ins: one, Mems: one},
		{Ins: []api.Kind{1, 2}}, {Ins: []api.Kind{2, 1}}, {Consts: []int64{1, 2}}, {Consts: []int64{2, 1}},
		{Code: []code.Instr{{Op: 1, A: 2}}}, {Code: []code.Instr{{Op: 2, A: 1}}}, {Code: []code.Instr{{A: 1, B: 2}}}, {Code: []code.Instr{{B: 1, C: 2}}},
		{Code: []code.Instr{{Op: 1}, {Op: 2}}}, {Code: []code.Instr{{Op: 2}, {Op: 1}}},
	}
	for i, p := range l {
		for k, q := range l {
			if code.Same(p, q) != (i == k) {
				t.Errorf("P14.1: Same of %v and %v: %v", p, q, i != k)
			}
		}
	}
}

// P14.1: random programs, small ones so that some are the same: are their bytes?
func TestSameLikeBytes(t *testing.T) {
	m := maker{rand.New(rand.NewSource(10))}
	var l []code.Program
	for range 400 {
		p := m.program(1)
		l = append(l, p)
		if len(p.Code) == 1 {
			q := copied(p)
			q.Code[0].C ^= 1
			l = append(l, q)
		}
	}
	same := 0
	for _, p := range l {
		for _, q := range l {
			want := bytes.Equal(encoded(p), encoded(q))
			if want {
				same++
			}
			if code.Same(p, q) != want {
				t.Fatalf("P14.1: Same of %v and %v: %v", p, q, !want)
			}
		}
	}
	if same <= len(l) {
		t.Errorf("no two of the random programs are the same")
	}
}
