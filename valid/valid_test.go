package valid_test

import (
	"math"
	"slices"
	"strconv"
	"strings"
	"testing"

	"escapement/api"
	"escapement/code"
	"escapement/valid"
)

const kb, ki = api.Bool, api.Int

// read reads instructions as they are written here: in words, with a ; between.
func read(text string) []code.Instr {
	var l []code.Instr
	for _, line := range strings.Split(text, ";") {
		words := strings.Fields(line)
		if len(words) == 0 {
			continue
		}
		var v [4]int
		for v[0] < 21 && code.Name(v[0]) != words[0] {
			v[0]++
		}
		if v[0] == 21 {
			panic("no instruction: " + line)
		}
		for k, word := range words[1:] {
			n, err := strconv.Atoi(word)
			if err != nil {
				panic("no number: " + line)
			}
			v[k+1] = n
		}
		l = append(l, code.Instr{Op: v[0], A: v[1], B: v[2], C: v[3]})
	}
	return l
}

// some has two of everything, of each kind one: bools ahead.
func some(text string) code.Program {
	return code.Program{Ins: []api.Kind{kb, ki}, Outs: nil, Slots: []api.Kind{kb, ki, kb, ki}, Mems: []api.Kind{kb, ki}, Consts: []int64{0, 1, 2, -1}, Code: read(text)}
}

// hold holds what Check tells of a program: rule 0 of one that has no fault.
func hold(t *testing.T, what string, p code.Program, pc, rule int) {
	t.Helper()
	if f, ok := valid.Check(p); f != (valid.Fault{PC: pc, Rule: rule}) || ok != (rule == 0) {
		t.Errorf("P16.1: %s: %+v, %v, want %d, %d", what, f, ok, pc, rule)
	}
}

// P16.1: programs without a fault.
func TestFine(t *testing.T) {
	hold(t, "the empty one", code.Program{}, 0, 0)
	hold(t, "empty lists", code.Program{Ins: []api.Kind{}, Outs: []api.Kind{}, Slots: []api.Kind{}, Mems: []api.Kind{}, Consts: []int64{}, Code: []code.Instr{}}, 0, 0)
	hold(t, "no instructions", some(""), 0, 0)
	p := some("in 1 1; load 3 1; add 3 1 3; keep 1 3; in 0 0; unless 8 0; neg 1 3; jump 9; move 1 3; out 1 1; out 0 0")
	p.Outs = []api.Kind{kb, ki}
	hold(t, "one with both ways", p, 0, 0)
}

// P16.1: rule 1: how many there may be of each, and of what kinds.
func TestLimits(t *testing.T) {
	kinds := func(n int) []api.Kind { return slices.Repeat([]api.Kind{ki}, n) }
	jumps := func(n int) []code.Instr {
		var l []code.Instr
		for k := range n {
			l = append(l, code.Instr{Op: 20, A: k + 1})
		}
		return l
	}
	for name, make := range map[string]func(n int) code.Program{
		"slots": func(n int) code.Program { return code.Program{Slots: kinds(n)} }, "memories": func(n int) code.Program { return code.Program{Mems: kinds(n)} }, "constants": func(n int) code.Program { return code.Program{Consts: slices.Repeat([]int64{5}, n)} },
		"inputs": func(n int) code.Program { return code.Program{Ins: kinds(n)} }, "instructions": func(n int) code.Program { return code.Program{Code: jumps(n)} },
		"outputs": func(n int) code.Program {
			p := code.Program{Outs: kinds(n), Slots: kinds(1), Consts: []int64{7}, Code: read("const 0 0")}
			for k := range n {
				p.Code = append(p.Code, code.Instr{Op: 5, A: k})
			}
			return p
		},
	} {
		most := map[string]int{"inputs": api.MaxVars, "outputs": api.MaxVars, "instructions": api.MaxCode}[name]
		if most == 0 {
			most = api.MaxSlots
		}
		for _, n := range []int{0, 1, most - 1, most} {
			hold(t, strconv.Itoa(n)+" "+name, make(n), 0, 0)
		}
		for _, n := range []int{most + 1, most + 2, 2 * most, 100 * most} {
			hold(t, strconv.Itoa(n)+" "+name, make(n), -1, 1)
		}
	}
	for _, kind := range []api.Kind{math.MinInt, -1, 0, 3, 4, math.MaxInt} {
		for at := range 3 {
			l := []api.Kind{kb, ki, kb}
			l[at] = kind
			for name, p := range map[string]code.Program{"input": {Ins: l}, "output": {Outs: l}, "slot": {Slots: l}, "memory": {Mems: l}} {
				hold(t, name+" of kind "+strconv.Itoa(int(kind)), p, -1, 1)
			}
		}
	}
}

// operands are what the operands of each Op name.
func operands() [][]string {
	two, three := []string{"slot", "slot"}, []string{"slot", "slot", "slot"}
	return [][]string{
		{"slot", "constant"}, two, {"slot", "memory"}, {"memory", "slot"}, {"slot", "input"}, {"output", "slot"}, two, two,
		three, three, three, three, three, three, three, three, three, three, three, {"target", "slot"}, {"target"},
	}
}

// far are numbers that name nothing.
var far = []int{math.MinInt, math.MinInt32, -2, -1, 1 << 20, 1 << 32, math.MaxInt - 1, math.MaxInt}

// counted has so many of what such operands name.
func counted(name string, n int) code.Program {
	p := code.Program{}
	l := map[string]*[]api.Kind{"slot": &p.Slots, "memory": &p.Mems, "input": &p.Ins, "output": &p.Outs}
	for of, kinds := range l {
		*kinds = slices.Repeat([]api.Kind{ki}, 9)
		if of == name {
			*kinds = slices.Repeat([]api.Kind{ki}, n)
		}
	}
	p.Consts = make([]int64, 9)
	if name == "constant" {
		p.Consts = make([]int64, n)
	}
	return p
}

// rule2 tells whether rule 2 is what Check finds.
func rule2(t *testing.T, p code.Program, pc int) bool {
	t.Helper()
	f, ok := valid.Check(p)
	if f.Rule == 2 && (f.PC != pc || ok) {
		t.Errorf("P16.1: rule 2: %+v, %v, want %d", f, ok, pc)
	}
	return f.Rule == 2
}

// P16.1: rule 2: Op is one.
func TestOps(t *testing.T) {
	for _, number := range append(far, 21, 22, 255) {
		for pc := range 3 {
			p := some("jump 1; jump 2; jump 3")
			p.Code[pc].Op = number
			hold(t, "Op "+strconv.Itoa(number), p, pc, 2)
		}
	}
	for number := range 21 {
		p := counted("", 0)
		p.Code = []code.Instr{{Op: number, A: 1, B: 1, C: 1}}
		if rule2(t, p, 0) {
			t.Errorf("P16.1: rule 2: %s is one", code.Name(number))
		}
	}
}

// P16.1: rule 2: what an instruction names is there; what its row does not name may be any.
func TestPlaces(t *testing.T) {
	for number, names := range operands() {
		for k := range 3 {
			set := func(p *code.Program, v int) {
				p.Code = []code.Instr{{Op: 20, A: 1}, {Op: number, A: 2, B: 2, C: 2}, {Op: 20, A: 3}, {Op: 20, A: 4}}
				*[]*int{&p.Code[1].A, &p.Code[1].B, &p.Code[1].C}[k] = v
			}
			if k >= len(names) {
				for _, v := range append(far, 0, 9, 10) {
					p := counted("", 0)
					if set(&p, v); rule2(t, p, 1) {
						t.Errorf("P16.1: rule 2: %s does not name what is %d", code.Name(number), v)
					}
				}
				continue
			}
			from, to := 0, 5
			if names[k] == "target" {
				from = 2
			}
			p := counted(names[k], 5)
			for _, v := range append(far, 0, 1, 2, 3, 4, 5, 6) {
				if set(&p, v); rule2(t, p, 1) != (v < from || v >= to) {
					t.Errorf("P16.1: rule 2: %s with %d as its %s of 5", code.Name(number), v, names[k])
				}
			}
			// There may be none at all.
			p = counted(names[k], 0)
			if set(&p, 0); !rule2(t, p, 1) {
				t.Errorf("P16.1: rule 2: %s with a %s, of which there is none", code.Name(number), names[k])
			}
		}
	}
}

// P16.1: rule 2: a target is behind the instruction, and the end at most.
func TestTargets(t *testing.T) {
	for _, name := range []string{"jump", "unless"} {
		for size := 1; size < 6; size++ {
			for pc := range size {
				for _, v := range append(far, 0, 1, 2, 3, 4, 5, 6, 7) {
					p := code.Program{Slots: []api.Kind{kb}, Consts: []int64{0}, Code: slices.Repeat(read("const 0 0"), size)}
					p.Code[pc] = read(name)[0]
					p.Code[pc].A = v
					if rule2(t, p, pc) != (v <= pc || v > size) {
						t.Errorf("P16.1: rule 2: %s at %d of %d to %d", name, pc, size, v)
					}
				}
			}
		}
	}
}

// P16.1: rule 3: which kinds fit, of all that there are.
func TestKinds(t *testing.T) {
	fits := [][]string{
		{"const 1 2", "const 1 3", "const 1 0", "const 1 1", "const 0 0", "const 0 1"}, {"move 0 2", "move 1 3"}, {"load 0 0", "load 1 1"}, {"keep 0 0", "keep 1 1"}, {"in 0 0", "in 1 1"}, {"out 0 0", "out 1 1"}, {"not 0 2"}, {"neg 1 3"},
		{"add 1 3 3"}, {"sub 1 3 3"}, {"mul 1 3 3"}, {"div 1 3 3"}, {"mod 1 3 3"}, {"eq 0 2 2", "eq 0 3 3"}, {"lt 0 3 3"}, {"le 0 3 3"}, {"and 0 2 2"}, {"or 0 2 2"}, {"xor 0 2 2"}, {"unless 9 0"}, {"jump 9"},
	}
	ahead := read("const 0 0; const 1 0; const 2 0; const 3 0; out 0 0; out 1 1")
	for number, names := range operands() {
		for k := range 4 * 4 * 4 {
			v := []int{k / 16, k / 4 % 4, k % 4}
			inst := code.Instr{Op: number}
			for n, name := range names {
				switch name {
				case "target":
					v[n] = 9
				case "slot", "constant":
				default:
					v[n] %= 2
				}
				*[]*int{&inst.A, &inst.B, &inst.C}[n] = v[n]
			}
			// Slots 2 and 3 are of the kinds of 0 and 1: what is read is told as these, what is written as those.
			shown := inst
			for n, name := range names {
				if name == "slot" {
					at := []*int{&shown.A, &shown.B, &shown.C}[n]
					*at %= 2
					if n > 0 && (number == 1 || number > 5 && number < 19) {
						*at += 2
					}
				}
			}
			p := some("")
			p.Outs = []api.Kind{kb, ki}
			p.Code = slices.Concat(ahead, []code.Instr{inst}, read("jump 8; jump 9"))
			if slices.Contains(fits[number], code.Show(shown)) {
				hold(t, code.Show(inst), p, 0, 0)
			} else {
				hold(t, code.Show(inst), p, 6, 3)
			}
		}
	}
	p := some("")
	p.Consts = []int64{math.MinInt64, -1, 0, 1, 2, 3, math.MaxInt64}
	for k, n := range p.Consts {
		p.Code = read("const 1 " + strconv.Itoa(k))
		hold(t, "any constant to an int's slot", p, 0, 0)
		p.Code = read("const 1 0; const 0 " + strconv.Itoa(k))
		if n == 0 || n == 1 {
			hold(t, "0 or 1 to a bool's", p, 0, 0)
		} else {
			hold(t, "another to a bool's", p, 1, 3)
		}
	}
}

// P16.1: rule 4: what is read was written on each way that comes there.
func TestReads(t *testing.T) {
	for text, pc := range map[string]int{
		"move 1 3": 0, "move 1 1": 0, "keep 1 1": 0, "out 1 1": 0, "not 0 0": 0, "neg 1 1": 0, "unless 1 0": 0,
		"const 1 0; move 1 3": 1, "const 1 0; keep 0 0": 1, "const 0 0; keep 1 1": 1, "const 0 0; out 1 3": 1, "const 2 0; not 2 0": 1, "const 1 0; neg 1 3": 1, "const 2 0; unless 2 0": 1,
		"const 1 0; add 3 1 3": 1, "const 1 0; add 3 3 1": 1, "const 1 0; sub 3 3 1": 1, "const 1 0; mul 3 1 3": 1, "const 1 0; div 3 1 3": 1, "const 1 0; mod 3 3 1": 1, "const 1 0; eq 0 1 3": 1, "const 1 0; eq 0 3 1": 1, "const 0 0; eq 0 0 2": 1,
		"const 1 0; lt 0 1 3": 1, "const 1 0; lt 0 3 1": 1, "const 1 0; le 0 1 3": 1, "const 1 0; le 0 3 1": 1, "const 0 0; and 0 0 2": 1, "const 0 0; and 2 2 0": 1, "const 0 0; or 2 0 2": 1, "const 0 0; xor 0 2 0": 1,
		// Written on one way only, on the other only, or on neither.
		"const 0 0; unless 3 0; const 1 0; neg 1 1":                              3,
		"const 0 0; unless 4 0; const 1 0; jump 5; const 3 0; neg 1 1":           5,
		"const 0 0; unless 4 0; const 3 0; jump 5; const 1 0; neg 1 1":           5,
		"const 0 0; unless 4 0; const 3 0; jump 5; move 0 0; neg 1 3":            5,
		"const 0 0; unless 5 0; const 1 0; unless 6 0; const 3 0; neg 1 1":       5,
		"const 0 0; unless 3 0; jump 4; const 1 0; neg 1 1":                      4,
		"const 0 0; unless 5 0; unless 5 0; const 1 0; jump 6; jump 6; neg 1 1":  6,
		"const 0 0; unless 6 0; const 1 0; unless 6 0; neg 1 1; jump 7; neg 1 1": 6,
		"jump 2; const 1 0; neg 1 1":                                             2,
		"const 0 0; unless 2 0; neg 1 1":                                         2,
	} {
		p := some(text)
		if strings.Contains(text, "out") {
			p.Outs = []api.Kind{kb, ki}
		}
		hold(t, text, p, pc, 4)
	}
	for _, text := range []string{
		"in 1 1; neg 1 1", "load 1 1; neg 3 1; neg 1 3", "const 1 0; move 3 1; neg 3 3", "const 0 0; not 2 0; not 0 2", "const 1 0; lt 0 1 1; unless 3 0", "const 0 0; eq 2 0 0; and 0 2 2",
		"const 0 0; unless 4 0; const 1 0; jump 5; const 1 1; neg 1 1", "const 0 0; const 1 0; unless 4 0; const 1 1; neg 1 1", "const 0 0; unless 6 0; const 1 0; unless 5 0; const 1 1; neg 1 1",
		"const 0 0; unless 4 0; jump 4; neg 1 1; move 0 0", "jump 2; neg 1 1", "jump 3; neg 1 1; unless 3 0", "jump 2; jump 3; const 1 0; const 3 0", "const 0 0; unless 2 0; jump 4; neg 1 1",
		// What no way comes to has no way of its own: it takes nothing from those behind.
		"const 1 0; jump 3; jump 4; neg 1 1; neg 1 1", "const 0 0; jump 3; unless 4 2; const 1 0; neg 1 1", "const 1 0; jump 4; const 3 0; neg 1 1; neg 1 1",
	} {
		hold(t, text, some(text), 0, 0)
	}
	// Each slot by itself, as many as may be.
	for _, k := range []int{0, 1, 62, 63, 64, 65, 127, 128, api.MaxSlots - 1} {
		p := code.Program{Slots: slices.Repeat([]api.Kind{ki}, api.MaxSlots), Consts: []int64{1}}
		for s := range p.Slots {
			if s != k {
				p.Code = append(p.Code, code.Instr{A: s})
			}
		}
		for s := range p.Slots {
			p.Code = append(p.Code, code.Instr{Op: 7, A: 0, B: s})
		}
		if k == 0 {
			p.Code[len(p.Slots)-1].A = 1
		}
		hold(t, "slot "+strconv.Itoa(k), p, len(p.Slots)-1+k, 4)
	}
}

// P16.1: rule 4: of each Op all that it reads, one by one, and nothing else.
func TestEachRead(t *testing.T) {
	for number, names := range operands() {
		kinds := []api.Kind{ki, ki, ki}
		switch {
		case number >= 13 && number <= 15:
			kinds[0] = kb
		case number == 6 || number >= 16:
			kinds = []api.Kind{kb, kb, kb}
		}
		for missing := range 3 {
			p := code.Program{Ins: []api.Kind{ki}, Slots: kinds, Mems: []api.Kind{ki}, Consts: []int64{0}}
			if number == 5 {
				p.Outs = []api.Kind{ki}
			}
			for s := range 3 {
				if s != missing {
					p.Code = append(p.Code, code.Instr{Op: 0, A: s})
				}
			}
			v := [3]int{0, 1, 2}
			for k, name := range names {
				switch name {
				case "slot":
				case "target":
					v[k] = 3
				default:
					v[k] = 0
				}
			}
			p.Code = append(p.Code, code.Instr{Op: number, A: v[0], B: v[1], C: v[2]})
			what := code.Name(number) + " without slot " + strconv.Itoa(missing)
			if missing > 0 && missing < len(names) && names[missing] == "slot" {
				hold(t, what, p, 2, 4)
			} else {
				hold(t, what, p, 0, 0)
			}
		}
	}
}

// P16.1, R1: the last slot and the last output, however many there are, and however few instructions.
func TestLastOnes(t *testing.T) {
	for slots := 1; slots <= api.MaxSlots; slots++ {
		last := strconv.Itoa(slots - 1)
		for _, outs := range []int{0, 1, 2, api.MaxVars - 1, api.MaxVars} {
			what := "slot " + last + " with outputs: " + strconv.Itoa(outs)
			p := code.Program{Slots: slices.Repeat([]api.Kind{ki}, slots), Outs: slices.Repeat([]api.Kind{ki}, outs), Consts: []int64{7}}
			p.Code = read("neg " + last + " " + last)
			hold(t, what, p, 0, 4)
			p.Code = read("const " + last + " 0; neg " + last + " " + last)
			if outs == 0 {
				hold(t, what, p, 0, 0)
				continue
			}
			hold(t, what, p, 2, 5)
			p.Code = append(p.Code, read("out "+strconv.Itoa(outs-1)+" "+last)...)
			if outs == 1 {
				hold(t, what, p, 0, 0)
			} else {
				hold(t, what, p, 3, 5)
			}
		}
	}
}

// P16.1: rule 5: at the end each output was written on each way.
func TestOutputs(t *testing.T) {
	for text, fine := range map[string]bool{
		"": false, "out 0 0": false, "out 1 1": false, "out 0 0; out 0 0": false, "out 0 0; out 1 1": true, "out 1 1; out 0 0": true,
		"unless 5 0; out 0 0; out 1 1": false, "unless 4 0; out 0 0; out 1 1": false, "out 0 0; unless 5 0; out 1 1": false, "jump 5; out 0 0; out 1 1": false, "out 0 0; out 1 1; jump 7; out 0 0; out 0 0": true,
		"out 0 0; unless 6 0; out 1 1; jump 7; out 1 1": true, "out 0 0; unless 6 0; out 1 1; jump 7; out 0 0": false, "unless 5 0; out 1 1; jump 6; out 1 1; out 0 0": true, "unless 5 0; out 1 1; jump 6; out 0 0; out 0 0": false,
	} {
		p := some("const 0 0; const 1 0;" + text)
		p.Outs = []api.Kind{kb, ki}
		if fine {
			hold(t, text, p, 0, 0)
		} else {
			hold(t, text, p, len(p.Code), 5)
		}
	}
	for k := range api.MaxVars {
		p := code.Program{Slots: []api.Kind{ki}, Outs: slices.Repeat([]api.Kind{ki}, api.MaxVars), Consts: []int64{1}, Code: read("const 0 0")}
		for o := range p.Outs {
			if o != k {
				p.Code = append(p.Code, code.Instr{Op: 5, A: o})
			}
		}
		hold(t, "output "+strconv.Itoa(k), p, len(p.Code), 5)
	}
}
