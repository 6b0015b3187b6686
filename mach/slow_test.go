package mach_test

import (
	"math"
	"math/big"
	"math/rand"
	"slices"
	"strconv"
	"strings"
	"testing"

	"escapement/api"
	"escapement/code"
	"escapement/mach"
	"escapement/valid"
)

// slow is a machine that goes by the words in which instructions are told, and reckons with numbers of any size.
type slow struct {
	p     code.Program
	mems  []*big.Int
	ticks uint64
}

// state is the bytes of where it stands, by the library's numbers.
func (s *slow) state() []byte {
	var mems []int64
	for _, v := range s.mems {
		mems = append(mems, v.Int64())
	}
	return state(s.ticks, mems...)
}

// wrapped is that number as far as 64 bits hold it.
func wrapped(n *big.Int) *big.Int {
	n = new(big.Int).And(n, new(big.Int).SetUint64(math.MaxUint64))
	if n.Bit(63) == 1 {
		n.Sub(n, new(big.Int).Lsh(big.NewInt(1), 64))
	}
	return n
}

func truth(is bool) *big.Int {
	if is {
		return big.NewInt(1)
	}
	return big.NewInt(0)
}

func reckoned(name string, a, b *big.Int) *big.Int {
	n := new(big.Int)
	switch name {
	case "add":
		return wrapped(n.Add(a, b))
	case "sub":
		return wrapped(n.Sub(a, b))
	case "mul":
		return wrapped(n.Mul(a, b))
	case "div", "mod":
		if b.Sign() == 0 {
			return n
		}
		q, r := n.QuoRem(a, b, new(big.Int))
		return wrapped(map[string]*big.Int{"div": q, "mod": r}[name])
	case "eq":
		return truth(a.Cmp(b) == 0)
	case "lt":
		return truth(a.Cmp(b) < 0)
	case "le":
		return truth(a.Cmp(b) <= 0)
	case "and":
		return n.Mul(a, b)
	case "or":
		return truth(a.Sign()+b.Sign() > 0)
	}
	return truth(a.Cmp(b) != 0)
}

// step tells the outputs, and how many instructions were done.
func (s *slow) step(in api.Row) (api.Row, int) {
	slots, out, done := map[int]*big.Int{}, make(api.Row, len(s.p.Outs)), 0
	s.ticks++
	for at := 0; at < len(s.p.Code); done++ {
		words := append(strings.Fields(code.Show(s.p.Code[at])), "0", "0")
		a, _ := strconv.Atoi(words[1])
		b, _ := strconv.Atoi(words[2])
		c, _ := strconv.Atoi(words[3])
		at++
		switch words[0] {
		case "const":
			slots[a] = big.NewInt(s.p.Consts[b])
		case "move":
			slots[a] = slots[b]
		case "load":
			slots[a] = s.mems[b]
		case "keep":
			s.mems[a] = slots[b]
		case "in":
			slots[a] = big.NewInt(in[b])
		case "out":
			out[a] = slots[b].Int64()
		case "not":
			slots[a] = truth(slots[b].Sign() == 0)
		case "neg":
			slots[a] = wrapped(new(big.Int).Neg(slots[b]))
		case "unless":
			if slots[b].Sign() == 0 {
				at = a
			}
		case "jump":
			at = a
		default:
			slots[a] = reckoned(words[0], slots[b], slots[c])
		}
	}
	return out, done
}

// maker makes valid programs at random: all slots and outputs are written first, so any may be read, on whatever way.
type maker struct {
	*rand.Rand
	p code.Program
}

func (m *maker) kinds(count int) []api.Kind {
	l := []api.Kind{kb, ki}
	for range count {
		l = append(l, api.Kind(1+m.Intn(2)))
	}
	return l
}

// of is the number of one of that kind.
func (m *maker) of(l []api.Kind, k api.Kind) int {
	for {
		if at := m.Intn(len(l)); l[at] == k {
			return at
		}
	}
}

// instruction makes one of that Op; what its row does not name is any number.
func (m *maker) instruction(number, size int) code.Instr {
	p, k := m.p, api.Kind(1+m.Intn(2))
	slot := func(k api.Kind) int { return m.of(p.Slots, k) }
	i := code.Instr{Op: number, A: slot(k), B: slot(k), C: m.Int() - m.Int()}
	switch code.Name(number) {
	case "const":
		if i.B = m.Intn(len(p.Consts)); k == kb {
			i.B = m.Intn(2)
		}
	case "load":
		i.B = m.of(p.Mems, k)
	case "keep":
		i.A = m.of(p.Mems, k)
	case "in":
		i.B = m.of(p.Ins, k)
	case "out":
		i.A = m.of(p.Outs, k)
	case "not":
		i.A, i.B = slot(kb), slot(kb)
	case "neg":
		i.A, i.B = slot(ki), slot(ki)
	case "add", "sub", "mul", "div", "mod":
		i.A, i.B, i.C = slot(ki), slot(ki), slot(ki)
	case "eq":
		i.A, i.C = slot(kb), slot(k)
	case "lt", "le":
		i.A, i.B, i.C = slot(kb), slot(ki), slot(ki)
	case "and", "or", "xor":
		i.A, i.B, i.C = slot(kb), slot(kb), slot(kb)
	case "unless", "jump":
		i.A, i.B = len(p.Code)+1+m.Intn(min(8, size-len(p.Code))), slot(kb)
	}
	return i
}

func (m *maker) program(count, size int) code.Program {
	m.p = code.Program{Ins: m.kinds(count % 30), Outs: m.kinds(count % 30), Slots: m.kinds(count), Mems: m.kinds(count), Consts: []int64{0, 1, 2, -1, math.MinInt64, math.MaxInt64, int64(m.Uint64())}}
	for s, k := range m.p.Slots {
		m.p.Code = append(m.p.Code, code.Instr{Op: 2, A: s, B: m.of(m.p.Mems, k)})
	}
	for o, k := range m.p.Outs {
		m.p.Code = append(m.p.Code, code.Instr{Op: 5, A: o, B: m.of(m.p.Slots, k)})
	}
	for size = max(size, len(m.p.Code)); len(m.p.Code) < size; {
		m.p.Code = append(m.p.Code, m.instruction(m.Intn(21), size))
	}
	return m.p
}

func (m *maker) row() api.Row {
	r := api.Row{}
	for _, k := range m.p.Ins {
		n := int64(m.Uint64()) >> m.Intn(64)
		if k == kb {
			n &= 1
		}
		r = append(r, n)
	}
	return r
}

// P17.1, P17.2, T2, R5: programs at random, against the slow machine: each step is done in at most as many instructions as
// there are. One machine is only stepped, the other is left on the way for a copy, or for one that its state was loaded in.
func TestLikeSlow(t *testing.T) {
	m := &maker{Rand: rand.New(rand.NewSource(17))}
	for round := range 600 {
		p := m.program(m.Intn(40), m.Intn(300))
		if round%100 == 99 {
			p = m.program(api.MaxSlots-2, api.MaxCode)
		}
		if f, ok := valid.Check(p); !ok {
			t.Fatalf("what was made is not valid: %+v", f)
		}
		fast, again := machine(t, p), machine(t, p)
		s := &slow{p: p}
		for range p.Mems {
			s.mems = append(s.mems, new(big.Int))
		}
		for range 12 {
			in := m.row()
			want, done := s.step(in)
			if done > len(p.Code) {
				t.Fatalf("T2: %d instructions are done of %d", done, len(p.Code))
			}
			if out := step(t, fast, in...); !slices.Equal(out, want) || !slices.Equal(step(t, again, in...), want) {
				t.Fatalf("P17.1: Step of %v: %v, want %v: %+v", in, out, want, p)
			}
			stands(t, "a random program", fast, s.state())
			switch m.Intn(6) {
			case 0:
				again = again.Copy()
			case 1:
				left := again.State()
				again = machine(t, p)
				load(t, "a random program", again, left)
			}
			stands(t, "a random program, on other ways", again, s.state())
		}
	}
}

// T2, R1: any bytes are refused, or run without a fall.
func FuzzStep(f *testing.F) {
	m := &maker{Rand: rand.New(rand.NewSource(2))}
	for range 5 {
		f.Add(code.Encode(m.program(2, 20)), int64(5))
	}
	f.Add(code.Encode(some(adding)), int64(-1))
	f.Fuzz(func(t *testing.T, b []byte, n int64) {
		p, e := code.Decode(b)
		if e != api.OK {
			p = some("in 0 0; in 1 1; in 3 2; const 2 1; const 4 2; out 0 1")
			for ; len(b) >= 4; b = b[4:] {
				p.Code = append(p.Code, code.Instr{Op: int(b[0] % 21), A: int(b[1] % 16), B: int(b[2] % 8), C: int(b[3] % 8)})
			}
		}
		_, ok := valid.Check(p)
		a, e := mach.New(p)
		if ok != (e == api.OK) || ok != (a != nil) {
			t.Fatalf("P17.1: New: %v, of what is valid: %v", e, ok)
		}
		if !ok {
			return
		}
		s := &slow{p: p}
		for range p.Mems {
			s.mems = append(s.mems, new(big.Int))
		}
		for range 3 {
			var in api.Row
			for k, kind := range p.Ins {
				in = append(in, n>>k)
				if kind == kb {
					in[k] &= 1
				}
			}
			want, _ := s.step(in)
			if out := step(t, a, in...); !slices.Equal(out, want) {
				t.Fatalf("P17.1: Step of %v: %v, want %v", in, out, want)
			}
			n = n*3 + 1
		}
	})
}
