package code_test

import (
	"encoding/binary"
	"hash/crc32"
	"math"
	"math/rand"
	"slices"

	"escapement/api"
	"escapement/code"
)

// ints are the numbers at which a number's bytes grow by one, their neighbours, their negatives, and the ends.
func ints() []int {
	l := []int{0, 1, -1, 5, 100, -100, math.MaxInt, math.MinInt, math.MinInt + 1}
	for bit := 5; bit < 63; bit++ {
		p := 1 << bit
		l = append(l, p-1, p, p+1, -p+1, -p, -p-1)
	}
	return l
}

// alike tells whether two programs have the same items; nil and an empty list are one.
func alike(p, q code.Program) bool {
	return slices.Equal(p.Ins, q.Ins) && slices.Equal(p.Outs, q.Outs) && slices.Equal(p.Slots, q.Slots) &&
		slices.Equal(p.Mems, q.Mems) && slices.Equal(p.Consts, q.Consts) && slices.Equal(p.Code, q.Code)
}

// isZero tells whether all lists are empty.
func isZero(p code.Program) bool { return alike(p, code.Program{}) }

// summed is b with its sum behind it, by the library.
func summed(b []byte) []byte {
	return binary.LittleEndian.AppendUint32(slices.Clone(b), crc32.ChecksumIEEE(b))
}

// framed is what stands between the mark and the sum with both round it.
func framed(body []byte) []byte {
	return summed(append([]byte("STEP"), body...))
}

// encoded is the bytes of a program by the library's varints and sums.
func encoded(p code.Program) []byte {
	var b []byte
	for _, l := range [][]api.Kind{p.Ins, p.Outs, p.Slots, p.Mems} {
		b = binary.AppendUvarint(b, uint64(len(l)))
		for _, k := range l {
			b = binary.AppendVarint(b, int64(k))
		}
	}
	b = binary.AppendUvarint(b, uint64(len(p.Consts)))
	for _, v := range p.Consts {
		b = binary.AppendVarint(b, v)
	}
	b = binary.AppendUvarint(b, uint64(len(p.Code)))
	for _, i := range p.Code {
		b = binary.AppendVarint(b, int64(i.Op))
		b = binary.AppendVarint(b, int64(i.A))
		b = binary.AppendVarint(b, int64(i.B))
		b = binary.AppendVarint(b, int64(i.C))
	}
	return framed(b)
}

// taker takes numbers from bytes by the library's means; ok falls at the first that is none, or that has bytes too many.
type taker struct {
	b  []byte
	ok bool
}

func (k *taker) u() uint64 {
	u, n := binary.Uvarint(k.b)
	if n <= 0 || len(binary.AppendUvarint(nil, u)) != n {
		k.b, k.ok = nil, false
		return 0
	}
	k.b = k.b[n:]
	return u
}

func (k *taker) i() int64 {
	u := k.u()
	if u%2 == 1 {
		return -int64(u/2) - 1
	}
	return int64(u / 2)
}

func (k *taker) kinds() []api.Kind {
	var l []api.Kind
	for n := k.u(); n > 0 && k.ok; n-- {
		l = append(l, api.Kind(k.i()))
	}
	return l
}

// decoded goes through the bytes piece by piece, asking each; it does not make bytes again of what it read.
func decoded(b []byte) (code.Program, bool) {
	var none code.Program
	if len(b) < 8 || string(b[:4]) != "STEP" || binary.LittleEndian.Uint32(b[len(b)-4:]) != crc32.ChecksumIEEE(b[:len(b)-4]) {
		return none, false
	}
	k := &taker{b[4 : len(b)-4], true}
	p := code.Program{Ins: k.kinds(), Outs: k.kinds(), Slots: k.kinds(), Mems: k.kinds()}
	for n := k.u(); n > 0 && k.ok; n-- {
		p.Consts = append(p.Consts, k.i())
	}
	for n := k.u(); n > 0 && k.ok; n-- {
		p.Code = append(p.Code, code.Instr{Op: int(k.i()), A: int(k.i()), B: int(k.i()), C: int(k.i())})
	}
	if !k.ok || len(k.b) != 0 {
		return none, false
	}
	return p, true
}

// maker makes random programs, of any numbers.
type maker struct{ *rand.Rand }

// number is small mostly, and of any size now and then.
func (m maker) number() int {
	switch m.Intn(4) {
	case 0:
		return 1<<m.Intn(64) - m.Intn(3) + 1
	case 1:
		return int(m.Uint64()) >> m.Intn(64)
	}
	return m.Intn(24) - 1
}

func (m maker) kinds(most int) []api.Kind {
	l := make([]api.Kind, m.Intn(most+1))
	for i := range l {
		l[i] = api.Kind(m.number())
	}
	return l
}

func (m maker) instr() code.Instr {
	return code.Instr{Op: m.number(), A: m.number(), B: m.number(), C: m.number()}
}

func (m maker) program(most int) code.Program {
	p := code.Program{Ins: m.kinds(most), Outs: m.kinds(most), Slots: m.kinds(most), Mems: m.kinds(most)}
	for range m.Intn(most + 1) {
		p.Consts = append(p.Consts, int64(m.number()))
	}
	for range m.Intn(most + 1) {
		p.Code = append(p.Code, m.instr())
	}
	return p
}

// some are programs of all sorts: empty ones, ones with one list, each list with no two items alike, and random ones.
func some() []code.Program {
	one := []api.Kind{1}
	l := []code.Program{
		{},
		{Ins: []api.Kind{}, Outs: []api.Kind{}, Slots: []api.Kind{}, Mems: []api.Kind{}, Consts: []int64{}, Code: []code.Instr{}},
		{Ins: one}, {Outs: one}, {Slots: one}, {Mems: one}, {Consts: []int64{1}}, {Code: []code.Instr{{}}},
		full(),
	}
	m := maker{rand.New(rand.NewSource(14))}
	for most := range 40 {
		l = append(l, m.program(most))
	}
	return l
}

// full is a program each item of which is another number.
func full() code.Program {
	return code.Program{
		Ins: []api.Kind{2, 1}, Outs: []api.Kind{3}, Slots: []api.Kind{4, 5, 6}, Mems: []api.Kind{7, -8},
		Consts: []int64{-300, math.MaxInt64, math.MinInt64},
		Code:   []code.Instr{{Op: 8, A: 9, B: 10, C: 11}, {Op: -5, A: 12, B: -13, C: 300}},
	}
}

// setters lay a number into full's program, each in a place of its own: of each list, and of each number of an instruction.
func setters() []func(p *code.Program, v int) {
	return []func(p *code.Program, v int){
		func(p *code.Program, v int) { p.Ins[0] = api.Kind(v) },
		func(p *code.Program, v int) { p.Ins[1] = api.Kind(v) },
		func(p *code.Program, v int) { p.Outs[0] = api.Kind(v) },
		func(p *code.Program, v int) { p.Slots[2] = api.Kind(v) },
		func(p *code.Program, v int) { p.Mems[1] = api.Kind(v) },
		func(p *code.Program, v int) { p.Consts[0] = int64(v) },
		func(p *code.Program, v int) { p.Consts[2] = int64(v) },
		func(p *code.Program, v int) { p.Code[0].Op = v },
		func(p *code.Program, v int) { p.Code[1].Op = v },
		func(p *code.Program, v int) { p.Code[0].A = v },
		func(p *code.Program, v int) { p.Code[1].B = v },
		func(p *code.Program, v int) { p.Code[0].C = v },
		func(p *code.Program, v int) { p.Code[1].C = v },
	}
}

// copied is p in memory of its own.
func copied(p code.Program) code.Program {
	return code.Program{
		Ins: slices.Clone(p.Ins), Outs: slices.Clone(p.Outs), Slots: slices.Clone(p.Slots), Mems: slices.Clone(p.Mems),
		Consts: slices.Clone(p.Consts), Code: slices.Clone(p.Code),
	}
}
