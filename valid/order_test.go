package valid_test

import (
	"math"
	"math/rand"
	"slices"
	"testing"

	"escapement/api"
	"escapement/code"
	"escapement/valid"
)

// P16.1: the rules are asked one behind the other, each of all instructions, in order.
func TestOrder(t *testing.T) {
	const reads, kinds, places = "neg 1 1;", "const 0 2;", "jump 0;"
	for text, want := range map[string]valid.Fault{
		reads + kinds + places: {PC: 2, Rule: 2}, reads + places + kinds: {PC: 1, Rule: 2}, kinds + places + reads: {PC: 1, Rule: 2}, kinds + reads + places: {PC: 2, Rule: 2}, places + kinds + reads: {PC: 0, Rule: 2}, places + reads + kinds: {PC: 0, Rule: 2},
		reads + kinds: {PC: 1, Rule: 3}, kinds + reads: {PC: 0, Rule: 3}, reads: {PC: 0, Rule: 4}, "const 1 0;" + reads: {PC: 2, Rule: 5},
		places + places: {PC: 0, Rule: 2}, kinds + kinds: {PC: 0, Rule: 3}, reads + reads: {PC: 0, Rule: 4},
		// All instructions are asked, those too to which no way comes, but of what was written.
		"jump 2;" + places: {PC: 1, Rule: 2}, "jump 2;" + kinds: {PC: 1, Rule: 3}, "jump 2;" + reads: {PC: 2, Rule: 5},
	} {
		p := some(text)
		p.Outs = []api.Kind{kb}
		hold(t, text, p, want.PC, want.Rule)
		p.Mems = []api.Kind{0}
		hold(t, "one of no kind and "+text, p, -1, 1)
		p.Mems = nil
		p.Slots = append(p.Slots, slices.Repeat([]api.Kind{kb}, api.MaxSlots)...)
		hold(t, "too many and "+text, p, -1, 1)
	}
	p := some(reads)
	p.Outs = []api.Kind{kb, kb}
	p.Code[0].A = 2
	hold(t, "a slot of another kind, that is not read", p, 0, 3)
	p.Code = read("const 2 0; neg 3 0; not 1 9")
	hold(t, "a slot that is not there ahead of kinds", p, 2, 2)
	p.Code = read("neg 1 1; const 0 0; out 0 1; out 1 0")
	hold(t, "kinds of outputs ahead of what is read", p, 2, 3)
	p.Code = read("const 0 0; out 0 0; neg 3 3; jump 4")
	hold(t, "what is read ahead of outputs", p, 2, 4)
}

// slowRead tells whether some way from the beginning comes to pc and writes nothing that is meant ahead of it, gone
// through way by way.
func slowRead(p code.Program, pc int, writes func(i code.Instr) bool) bool {
	seen := map[int]int{}
	var comes func(at int) bool
	comes = func(at int) bool {
		if at >= pc || seen[at] == 1 {
			return at == pc
		}
		seen[at] = 1
		i := p.Code[at]
		switch {
		case writes(i):
			return false
		case i.Op == 20:
			return comes(i.A)
		case i.Op == 19:
			return comes(i.A) || comes(at+1)
		}
		return comes(at + 1)
	}
	return comes(0)
}

// slow is Check, rule by rule as chapters 14 and 16 have them, by the words in which an instruction is told.
func slow(p code.Program) (valid.Fault, bool) {
	for _, l := range [][]api.Kind{p.Ins, p.Outs, p.Slots, p.Mems} {
		for _, k := range l {
			if k != 1 && k != 2 {
				return valid.Fault{PC: -1, Rule: 1}, false
			}
		}
	}
	if len(p.Slots) > 1024 || len(p.Mems) > 1024 || len(p.Consts) > 1024 || len(p.Ins) > 64 || len(p.Outs) > 64 || len(p.Code) > 8192 {
		return valid.Fault{PC: -1, Rule: 1}, false
	}
	is := func(l []api.Kind, k int) bool { return k >= 0 && k < len(l) }
	for pc, i := range p.Code {
		slots := is(p.Slots, i.A) && is(p.Slots, i.B)
		fine := map[string]bool{
			"const": is(p.Slots, i.A) && i.B >= 0 && i.B < len(p.Consts), "move": slots, "load": is(p.Slots, i.A) && is(p.Mems, i.B), "keep": is(p.Mems, i.A) && is(p.Slots, i.B),
			"in": is(p.Slots, i.A) && is(p.Ins, i.B), "out": is(p.Outs, i.A) && is(p.Slots, i.B), "not": slots, "neg": slots,
			"unless": i.A > pc && i.A <= len(p.Code) && is(p.Slots, i.B), "jump": i.A > pc && i.A <= len(p.Code), "": false,
		}
		if ok, known := fine[code.Name(i.Op)]; known && !ok || !known && !(slots && is(p.Slots, i.C)) {
			return valid.Fault{PC: pc, Rule: 2}, false
		}
	}
	for pc, i := range p.Code {
		if !slowKinds(p, i) {
			return valid.Fault{PC: pc, Rule: 3}, false
		}
	}
	for pc, i := range p.Code {
		var reads []int
		switch name := code.Name(i.Op); name {
		case "move", "keep", "out", "not", "neg", "unless":
			reads = []int{i.B}
		case "const", "load", "in", "jump":
		default:
			reads = []int{i.B, i.C}
		}
		for _, s := range reads {
			if slowRead(p, pc, func(i code.Instr) bool { return i.A == s && i.Op != 3 && i.Op != 5 && i.Op < 19 }) {
				return valid.Fault{PC: pc, Rule: 4}, false
			}
		}
	}
	for o := range p.Outs {
		if slowRead(p, len(p.Code), func(i code.Instr) bool { return i.A == o && i.Op == 5 }) {
			return valid.Fault{PC: len(p.Code), Rule: 5}, false
		}
	}
	return valid.Fault{}, true
}

// slowKinds is rule 3 of one instruction.
func slowKinds(p code.Program, i code.Instr) bool {
	slot := func(k int) api.Kind { return p.Slots[k] }
	switch code.Name(i.Op) {
	case "const":
		return slot(i.A) == ki || p.Consts[i.B] == 0 || p.Consts[i.B] == 1
	case "move":
		return slot(i.A) == slot(i.B)
	case "load":
		return slot(i.A) == p.Mems[i.B]
	case "keep":
		return p.Mems[i.A] == slot(i.B)
	case "in":
		return slot(i.A) == p.Ins[i.B]
	case "out":
		return p.Outs[i.A] == slot(i.B)
	case "not":
		return slot(i.A)+slot(i.B) == 2
	case "neg":
		return slot(i.A)+slot(i.B) == 4
	case "eq":
		return slot(i.A) == 1 && slot(i.B) == slot(i.C)
	case "lt", "le":
		return slot(i.A) == 1 && slot(i.B)+slot(i.C) == 4
	case "and", "or", "xor":
		return slot(i.A)+slot(i.B)+slot(i.C) == 3
	case "unless":
		return slot(i.B) == 1
	case "jump":
		return true
	}
	return slot(i.A)+slot(i.B)+slot(i.C) == 6
}

// made is a program at random: mostly its instructions are placed, and of kinds that fit, and what they read was written.
func made(r *rand.Rand) code.Program {
	kinds := func(most int) []api.Kind {
		l := make([]api.Kind, r.Intn(most))
		for k := range l {
			l[k] = api.Kind(1 + r.Intn(2))
		}
		return l
	}
	p := code.Program{Ins: kinds(4), Outs: kinds(3), Slots: append(kinds(5), 1), Mems: kinds(4), Consts: []int64{0, 1, 5}[:r.Intn(4)]}
	size := r.Intn(14)
	for len(p.Code) < size {
		i := code.Instr{Op: r.Intn(21), A: r.Intn(len(p.Slots)), B: r.Intn(len(p.Slots)), C: r.Intn(len(p.Slots))}
		if i.Op >= 19 {
			i.A = len(p.Code) + 1 + r.Intn(size-len(p.Code))
		}
		p.Code = append(p.Code, i)
		// What has a fault is made anew, often.
		f, ok := slow(code.Program{Ins: p.Ins, Slots: p.Slots, Mems: p.Mems, Consts: p.Consts, Code: append(slices.Clone(p.Code), slices.Repeat([]code.Instr{{Op: 20, A: size}}, size-len(p.Code))...)})
		if !ok && f.PC < len(p.Code) && r.Intn(100) > 0 && r.Intn(20) > 0 {
			p.Code = p.Code[:len(p.Code)-1]
			size -= r.Intn(2) * r.Intn(2)
		}
	}
	return p
}

// P16.1: programs at random, against the going through.
func TestLikeSlow(t *testing.T) {
	r := rand.New(rand.NewSource(16))
	seen := map[int]int{}
	for range 20000 {
		p := made(r)
		want, _ := slow(p)
		if hold(t, "one at random", p, want.PC, want.Rule); t.Failed() {
			t.Fatalf("%+v", p)
		}
		seen[want.Rule]++
	}
	for _, rule := range []int{0, 2, 3, 4, 5} {
		if seen[rule] < 300 {
			t.Errorf("of all that was made, %d had a fault of rule %d", seen[rule], rule)
		}
	}
}

// R1: any numbers in any place.
func TestAnyNumbers(t *testing.T) {
	r := rand.New(rand.NewSource(1))
	any := func() int {
		return []int{r.Intn(8) - 2, int(r.Uint64()), math.MinInt, math.MaxInt, r.Intn(30)}[r.Intn(5)]
	}
	for range 20000 {
		var p code.Program
		for _, l := range []*[]api.Kind{&p.Ins, &p.Outs, &p.Slots, &p.Mems} {
			for range r.Intn(4) {
				*l = append(*l, []api.Kind{1, 2, 1, 2, 1, 2, 1, 2, api.Kind(any())}[r.Intn(9)])
			}
		}
		for range r.Intn(6) {
			p.Code = append(p.Code, code.Instr{Op: any(), A: any(), B: any(), C: any()})
			p.Consts = append(p.Consts, int64(any()))
		}
		want, _ := slow(p)
		hold(t, "any numbers", p, want.PC, want.Rule)
	}
}

// R1: as many ways as there may be come to an end soon.
func TestManyWays(t *testing.T) {
	p := code.Program{Slots: slices.Repeat([]api.Kind{kb}, api.MaxSlots), Outs: slices.Repeat([]api.Kind{kb}, api.MaxVars), Consts: []int64{1}}
	for s := range p.Slots {
		p.Code = append(p.Code, code.Instr{A: s})
	}
	for o := range p.Outs {
		p.Code = append(p.Code, code.Instr{Op: 5, A: o})
	}
	for pc := len(p.Code); pc < api.MaxCode; pc++ {
		p.Code = append(p.Code, code.Instr{Op: 19, A: min(pc+1+pc%700, api.MaxCode), B: pc % api.MaxSlots})
	}
	hold(t, "many ways", p, 0, 0)
	p.Code[5].A = 4
	hold(t, "many ways, a slot not written", p, api.MaxSlots+api.MaxVars+(5-(api.MaxSlots+api.MaxVars)%api.MaxSlots+api.MaxSlots)%api.MaxSlots, 4)
}

// R4, R5: what is handed in stays as it is, spare room too.
func TestChangesNothing(t *testing.T) {
	r := rand.New(rand.NewSource(2))
	for range 500 {
		p := made(r)
		room := func(l []api.Kind) []api.Kind { return append(slices.Clone(l), 77, 78)[:len(l)] }
		q := code.Program{Ins: room(p.Ins), Outs: room(p.Outs), Slots: room(p.Slots), Mems: room(p.Mems), Consts: append(slices.Clone(p.Consts), 77)[:len(p.Consts)], Code: append(slices.Clone(p.Code), code.Instr{Op: 77})[:len(p.Code)]}
		f, ok := valid.Check(q)
		if g, again := valid.Check(q); f != g || ok != again || !code.Same(p, q) {
			t.Fatalf("R4, R5: Check tells %v, then %v, of %+v", f, g, q)
		}
		for _, l := range [][]api.Kind{q.Ins, q.Outs, q.Slots, q.Mems} {
			if !slices.Equal(l[len(l):len(l)+2], []api.Kind{77, 78}) {
				t.Fatalf("R4: Check writes to spare room of %+v", q)
			}
		}
		if q.Consts[:len(q.Consts)+1][len(q.Consts)] != 77 || q.Code[:len(q.Code)+1][len(q.Code)].Op != 77 {
			t.Fatalf("R4: Check writes to spare room of %+v", q)
		}
	}
}

// P16.1, R1: any bytes that are a program, and any that are none.
func FuzzCheck(f *testing.F) {
	for _, text := range []string{"", "const 1 0; neg 1 1", "const 0 0; unless 4 0; const 1 0; jump 5; const 1 1; neg 1 1", "const 0 2", "jump 0"} {
		f.Add(code.Encode(some(text)))
	}
	f.Fuzz(func(t *testing.T, l []byte) {
		p, e := code.Decode(l)
		if e != api.OK {
			p = code.Program{Ins: []api.Kind{kb, ki}, Outs: []api.Kind{ki}, Slots: []api.Kind{kb, ki, kb, ki}, Mems: []api.Kind{kb, ki}, Consts: []int64{0, 1, 2}}
			for ; len(l) >= 4; l = l[4:] {
				p.Code = append(p.Code, code.Instr{Op: int(l[0] % 22), A: int(l[1]%16) - 1, B: int(l[2]%8) - 1, C: int(l[3]%8) - 1})
			}
		}
		if len(p.Code) < 300 {
			want, _ := slow(p)
			hold(t, "any bytes", p, want.PC, want.Rule)
		}
	})
}
