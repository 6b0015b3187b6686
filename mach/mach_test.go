package mach_test

import (
	"math"
	"slices"
	"strconv"
	"strings"
	"testing"

	"escapement/api"
	"escapement/code"
	"escapement/mach"
)

const kb, ki = api.Bool, api.Int

// read reads instructions as they are written here: in words, with a ; between.
func read(text string) []code.Instr {
	var l []code.Instr
	for _, line := range strings.Split(text, ";") {
		words := append(strings.Fields(line), "0", "0", "0", "0")
		var v [3]int
		for k := range v {
			v[k], _ = strconv.Atoi(words[k+1])
		}
		for number := 0; code.Name(number) != ""; number++ {
			if code.Name(number) == words[0] {
				l = append(l, code.Instr{Op: number, A: v[0], B: v[1], C: v[2]})
			}
		}
	}
	return l
}

// some has some of everything, of each kind: bools ahead.
func some(text string) code.Program {
	return code.Program{Ins: []api.Kind{kb, ki, ki}, Outs: []api.Kind{ki}, Slots: []api.Kind{kb, ki, kb, ki, ki}, Mems: []api.Kind{kb, ki, ki}, Consts: []int64{0, 1, 10, -7}, Code: read(text)}
}

func machine(t *testing.T, p code.Program) *mach.Machine {
	t.Helper()
	m, e := mach.New(p)
	if e != api.OK || m == nil {
		t.Fatalf("P17.1: New: %v, of %+v", e, p)
	}
	return m
}

// step holds a step that is not refused, and tells its outputs.
func step(t *testing.T, m *mach.Machine, in ...int64) api.Row {
	t.Helper()
	ticks := m.Ticks()
	out, e := m.Step(in)
	if e != api.OK || m.Ticks() != ticks+1 {
		t.Fatalf("P17.1: Step of %v: %v, %d ticks behind %d", in, e, m.Ticks(), ticks)
	}
	return out
}

// hold holds what the steps of a program tell: rows of inputs, and one output of each.
func hold(t *testing.T, text string, in [][]int64, want ...int64) {
	t.Helper()
	m := machine(t, some(text))
	for k, r := range in {
		if out := step(t, m, r...); !slices.Equal(out, api.Row{want[k]}) {
			t.Errorf("P17.1: %s: step %d of %v: %v, want %d", text, k, in, out, want[k])
		}
	}
}

// P17.1: what each instruction does.
func TestInstructions(t *testing.T) {
	in := [][]int64{{0, 5, 3}, {1, -6, 2}, {1, 4, 4}}
	for text, want := range map[string][]int64{
		"in 1 1; out 0 1": {5, -6, 4}, "in 1 2; out 0 1": {3, 2, 4}, "const 1 2; out 0 1": {10, 10, 10}, "const 1 3; out 0 1": {-7, -7, -7}, "in 1 1; move 3 1; out 0 3": {5, -6, 4}, "in 1 1; in 3 2; out 0 1; out 0 3": {3, 2, 4}, "in 1 1; in 3 2; move 3 1; move 1 3; out 0 1": {5, -6, 4},
		"in 1 1; neg 3 1; out 0 3": {-5, 6, -4}, "in 1 1; neg 1 1; out 0 1": {-5, 6, -4}, "in 1 1; in 3 2; add 4 1 3; out 0 4": {8, -4, 8}, "in 1 1; in 3 2; sub 4 1 3; out 0 4": {2, -8, 0}, "in 1 1; in 3 2; sub 4 3 1; out 0 4": {-2, 8, 0}, "in 1 1; in 3 2; mul 4 1 3; out 0 4": {15, -12, 16},
		"in 1 1; in 3 2; div 4 1 3; out 0 4": {1, -3, 1}, "in 1 1; in 3 2; mod 4 1 3; out 0 4": {2, 0, 0}, "in 1 1; in 3 2; div 1 3 1; out 0 1": {0, 0, 1}, "in 1 1; in 3 2; sub 1 1 1; out 0 1": {0, 0, 0},
	} {
		hold(t, text, in, want...)
	}
	// Of a bool: 10 where it is so, else -7.
	for text, want := range map[string][]int64{
		"move 0 0": {0, 1, 1}, "move 0 2": {1, 1, 1}, "not 0 0": {1, 0, 0}, "not 0 2": {0, 0, 0}, "eq 0 1 3": {0, 0, 1}, "eq 0 0 2": {0, 1, 1}, "lt 0 1 3": {0, 1, 0}, "lt 0 3 1": {1, 0, 0}, "le 0 1 3": {0, 1, 1}, "le 0 3 1": {1, 0, 1},
		"and 0 0 2": {0, 1, 1}, "and 0 2 2": {1, 1, 1}, "or 0 0 2": {1, 1, 1}, "or 0 0 0": {0, 1, 1}, "xor 0 0 2": {1, 0, 0}, "xor 0 2 2": {0, 0, 0}, "xor 2 0 0; xor 0 0 2": {0, 1, 1}, "const 0 0": {0, 0, 0}, "const 0 1": {1, 1, 1},
	} {
		told := make([]int64, len(want))
		for k, is := range want {
			told[k] = []int64{-7, 10}[is]
		}
		count := len(read(text))
		end := "; const 4 3; const 3 2; unless " + strconv.Itoa(8+count) + " 0; move 4 3; out 0 4"
		hold(t, "in 0 0; in 1 1; in 3 2; const 2 1;"+text+end, in, told...)
	}
}

// P17.1: unless and jump go on at their target: the very next one, any other, or the end.
func TestWays(t *testing.T) {
	in := [][]int64{{0, 5, 3}, {1, -6, 2}}
	for text, want := range map[string][]int64{
		"in 0 0; in 1 1; out 0 1; unless 4 0": {5, -6}, "in 0 0; in 1 1; out 0 1; unless 6 0; in 1 2; out 0 1": {5, 2}, "in 1 1; out 0 1; jump 3": {5, -6}, "in 1 1; out 0 1; jump 5; in 1 2; out 0 1": {5, -6}, "in 1 1; jump 3; in 1 2; out 0 1": {5, -6},
		"in 0 0; unless 4 0; in 1 1; jump 5; in 1 2; out 0 1": {3, -6}, "in 0 0; in 1 1; unless 4 0; neg 1 1; not 0 0; unless 7 0; neg 1 1; out 0 1": {-5, 6}, "in 0 0; in 1 1; unless 7 0; unless 5 0; neg 1 1; jump 7; neg 1 1; out 0 1": {5, 6},
	} {
		hold(t, text, in, want...)
	}
}

// P17.1: memories are 0 at first, and have at each step what the last one kept, whichever step that was.
func TestMemories(t *testing.T) {
	row := []int64{0, 5, 3}
	on := []int64{1, 6, 2}
	for text, want := range map[string][]int64{
		"load 1 1; out 0 1": {0, 0, 0, 0, 0}, "in 1 1; load 3 1; keep 1 1; out 0 3": {0, 5, 6, 5, 6}, "in 1 1; keep 1 1; load 3 1; out 0 3": {5, 6, 5, 6, 6}, "in 1 1; load 3 1; keep 2 1; out 0 3": {0, 0, 0, 0, 0}, "in 1 1; load 3 1; load 4 2; keep 2 3; keep 1 1; out 0 4": {0, 0, 5, 6, 5},
		"load 1 1; const 3 1; add 1 1 3; keep 1 1; out 0 1": {1, 2, 3, 4, 5}, "load 1 1; in 3 1; add 1 1 3; keep 1 1; neg 1 1; out 0 1": {-5, -11, -16, -22, -28}, "in 1 1; keep 1 1; neg 3 1; keep 1 3; load 4 1; out 0 4": {-5, -6, -5, -6, -6},
		"in 0 0; load 1 1; in 3 1; unless 5 0; keep 1 3; out 0 1": {0, 0, 6, 6, 6}, "load 0 0; in 1 1; in 2 0; keep 0 2; unless 6 0; neg 1 1; out 0 1": {5, 6, -5, 6, -6},
	} {
		hold(t, text, [][]int64{row, on, row, on, on}, want...)
	}
}

// P17.1: ints wrap round, quotients go toward nought, a rest has the sign of the first; by 0 both are 0.
func TestEdges(t *testing.T) {
	const least, most = math.MinInt64, math.MaxInt64
	for text, l := range map[string][][3]int64{
		"neg 4 1":   {{least, 0, least}, {most, 0, -most}, {0, 0, 0}},
		"add 4 1 3": {{most, 1, least}, {least, -1, most}, {least, least, 0}, {most, most, -2}, {most, least, -1}},
		"sub 4 1 3": {{least, 1, most}, {most, -1, least}, {0, least, least}, {-1, least, most}},
		"mul 4 1 3": {{least, -1, least}, {1 << 32, 1 << 32, 0}, {3037000500, 3037000500, -9223372036709301616}, {most, most, 1}, {most, 2, -2}},
		"div 4 1 3": {{least, -1, least}, {7, 2, 3}, {-7, 2, -3}, {7, -2, -3}, {-7, -2, 3}, {7, 0, 0}, {0, 0, 0}, {least, 0, 0}, {1, most, 0}, {least, most, -1}, {6, 3, 2}},
		"mod 4 1 3": {{least, -1, 0}, {7, 2, 1}, {-7, 2, -1}, {7, -2, 1}, {-7, -2, -1}, {7, 0, 0}, {0, 0, 0}, {least, 0, 0}, {1, most, 1}, {least, most, -1}, {6, 3, 0}},
		"lt 0 1 3; move 4 3; unless 6 0; const 4 2": {{least, most, 10}, {most, least, least}, {least, least, least}, {-1, 0, 10}, {0, -1, -1}},
		"le 0 1 3; move 4 3; unless 6 0; const 4 2": {{least, most, 10}, {most, least, least}, {least, least, 10}, {most, most, 10}, {0, -1, -1}},
		"eq 0 1 3; move 4 3; unless 6 0; const 4 2": {{least, most, most}, {least, least, 10}, {0, 1 << 32, 1 << 32}, {-1, 1, 1}},
	} {
		for _, v := range l {
			hold(t, "in 1 1; in 3 2; "+text+"; out 0 4", [][]int64{{0, v[0], v[1]}}, v[2])
		}
	}
}

// P17.1: all inputs and outputs, in their order; none.
func TestRows(t *testing.T) {
	p := code.Program{Ins: slices.Repeat([]api.Kind{ki}, api.MaxVars), Outs: slices.Repeat([]api.Kind{ki}, api.MaxVars), Slots: []api.Kind{ki}}
	var in, want api.Row
	for k := range api.MaxVars {
		p.Code = append(p.Code, read("in 0 "+strconv.Itoa(k)+"; out "+strconv.Itoa(api.MaxVars-1-k)+" 0")...)
		in, want = append(in, int64(k*k)), append(api.Row{int64(k * k)}, want...)
	}
	if out := step(t, machine(t, p), in...); !slices.Equal(out, want) {
		t.Errorf("P17.1: %v, want %v", out, want)
	}
	m := machine(t, code.Program{})
	for _, none := range []api.Row{nil, {}, nil} {
		if out, e := m.Step(none); e != api.OK || len(out) != 0 {
			t.Errorf("P17.1: Step of no inputs: %v, %v", out, e)
		}
	}
	if m.Ticks() != 3 {
		t.Errorf("P17.1: %d ticks of 3", m.Ticks())
	}
}

const adding = "load 1 1; in 3 1; add 1 1 3; keep 1 1; out 0 1"

// P17.1, R2, R3: EARG of a row that does not fit; then nothing has changed.
func TestRefused(t *testing.T) {
	m := machine(t, some(adding))
	step(t, m, 1, 5, 0)
	for _, r := range []api.Row{nil, {}, {0}, {0, 1}, {0, 1, 2, 3}, {0, 1, 2, 0, 0}, {2, 1, 2}, {-1, 1, 2}, {math.MinInt64, 1, 2}, {math.MaxInt64, 1, 2}, {256, 1, 2}, {1 << 32, 1, 2}} {
		if out, e := m.Step(r); e != api.EARG || out != nil || m.Ticks() != 1 {
			t.Errorf("P17.1: Step of %v: %v, %v, %d ticks", r, out, e, m.Ticks())
		}
	}
	if out := step(t, m, 0, -2, 0); !slices.Equal(out, api.Row{3}) {
		t.Errorf("R3: behind steps that were refused: %v", out)
	}
	if _, e := machine(t, code.Program{}).Step(api.Row{0}); e != api.EARG {
		t.Errorf("P17.1: Step of one value where there is no input: %v", e)
	}
	p := code.Program{Ins: []api.Kind{ki, kb, ki, kb}}
	for k := range p.Ins {
		r := api.Row{7, 1, -7, 0}
		if r[k] = 2; (p.Ins[k] == kb) != (func() api.Errno { _, e := machine(t, p).Step(r); return e }() == api.EARG) {
			t.Errorf("P17.1: Step of %v", r)
		}
	}
}

// P17.1, R2: EBAD of what valid has a fault of, by any of its rules.
func TestBad(t *testing.T) {
	many := some("in 1 1; out 0 1")
	many.Mems = make([]api.Kind, api.MaxSlots+1)
	none := some("in 1 1; out 0 1")
	none.Mems = []api.Kind{0}
	for what, p := range map[string]code.Program{
		"rule 1, too many": many, "rule 1, no kind": none, "rule 2, places": some("in 1 9; out 0 1"), "rule 2, targets": some("in 1 1; out 0 1; jump 0"), "rule 3": some("in 0 1; in 1 1; out 0 1"), "rule 4": some("out 0 1"), "rule 5": some("in 1 1"), "no instructions": some(""),
	} {
		if m, e := mach.New(p); e != api.EBAD || m != nil {
			t.Errorf("P17.1: New, %s: %v, %v", what, m, e)
		}
	}
}

// P17.1: Ticks, and Reset, which makes it as New does.
func TestReset(t *testing.T) {
	p := some("load 0 0; load 4 2; in 1 1; in 2 0; keep 0 2; keep 2 1; unless 8 0; neg 4 4; out 0 4")
	m := machine(t, p)
	if m.Ticks() != 0 {
		t.Errorf("P17.1: New: %d ticks", m.Ticks())
	}
	m.Reset()
	for round := range 4 {
		for k, want := range []int64{0, 5, -6, -7}[:1+round] {
			if out := step(t, m, int64(min(k, 1)), int64(5+k), 0); !slices.Equal(out, api.Row{want}) || m.Ticks() != int64(k+1) {
				t.Errorf("P17.1: round %d, step %d: %v, %d ticks", round, k, out, m.Ticks())
			}
		}
		if m.Reset(); m.Ticks() != 0 {
			t.Errorf("P17.1: Reset: %d ticks", m.Ticks())
		}
	}
}

// P17.1: a machine keeps its own memories.
func TestApart(t *testing.T) {
	p := some(adding)
	a, b := machine(t, p), machine(t, p)
	for k := range int64(4) {
		if x, y := step(t, a, 0, 1, 0), step(t, b, 0, 100, 0); !slices.Equal(x, api.Row{k + 1}) || !slices.Equal(y, api.Row{100 * (k + 1)}) {
			t.Errorf("P17.1: two machines of one program tell %v and %v", x, y)
		}
	}
	if a.Reset(); b.Ticks() != 4 || !slices.Equal(step(t, b, 0, 0, 0), api.Row{400}) {
		t.Errorf("P17.1: a Reset of one machine resets the other")
	}
}

// R4: what is handed in is not changed and not kept; what is answered is new memory.
func TestNew(t *testing.T) {
	p := some("in 0 0; in 1 1; load 3 1; keep 1 1; const 4 2; unless 7 0; neg 3 3; add 3 3 4; out 0 3")
	room := func(l []api.Kind) []api.Kind { return append(l, 77)[:len(l)] }
	p.Ins, p.Outs, p.Slots, p.Mems = room(p.Ins), room(p.Outs), room(p.Slots), room(p.Mems)
	p.Consts, p.Code = append(p.Consts, 77)[:len(p.Consts)], append(p.Code, code.Instr{Op: 77})[:len(p.Code)]
	was := code.Encode(p)
	m := machine(t, p)
	row := api.Row{1, 5, 6, 77}[:3]
	first := step(t, m, row...)
	if out, e := m.Step(row); e != api.OK || !slices.Equal(out, api.Row{5}) || !slices.Equal(row[:4], api.Row{1, 5, 6, 77}) || !slices.Equal(code.Encode(p), was) {
		t.Errorf("R4: Step: %v, %v of %v", out, e, row[:4])
	}
	if p.Ins[:4][3] != 77 || p.Outs[:2][1] != 77 || p.Slots[:6][5] != 77 || p.Mems[:4][3] != 77 || p.Consts[:5][4] != 77 || p.Code[:10][9].Op != 77 {
		t.Errorf("R4: New or Step writes to spare room")
	}
	for _, l := range [][]api.Kind{p.Ins, p.Outs, p.Slots, p.Mems} {
		clear(l)
	}
	clear(p.Consts)
	clear(p.Code)
	first = first[:cap(first)]
	for k := range first {
		first[k] = 99
	}
	row[1] = 9
	second := step(t, m, 0, 8, 0)
	third := step(t, m, 1, 0, 0)
	if !slices.Equal(second, api.Row{15}) || !slices.Equal(third, api.Row{2}) {
		t.Errorf("R4: behind writing to what was handed in, and told: %v, %v", second, third)
	}
	if _, e := m.Step(api.Row{2, 0, 0}); e != api.EARG {
		t.Errorf("R4: behind writing to the kinds that were handed in, Step of a bool 2: %v", e)
	}
}
