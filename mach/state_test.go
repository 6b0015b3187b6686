package mach_test

import (
	"bytes"
	"crypto/sha256"
	"encoding/binary"
	"math"
	"slices"
	"strconv"
	"testing"

	"escapement/api"
	"escapement/code"
	"escapement/mach"
)

// most is how many ticks a state may have.
const most = 1 << 62

// numbers are those at which a number's bytes grow by one, their neighbours, their negatives, and the ends.
func numbers() []int64 {
	l := []int64{0, 1, -1, 2, math.MaxInt64, math.MinInt64, math.MinInt64 + 1}
	for bit := 5; bit < 63; bit++ {
		n := int64(1) << bit
		l = append(l, n-1, n, n+1, 1-n, -n, -n-1)
	}
	return l
}

// counted is the bytes of a state that says it has so many memories, by the library's numbers.
func counted(ticks, count uint64, mems ...int64) []byte {
	b := binary.AppendUvarint(binary.AppendUvarint(nil, ticks), count)
	for _, v := range mems {
		b = binary.AppendVarint(b, v)
	}
	return b
}

// state is the bytes of a state.
func state(ticks uint64, mems ...int64) []byte { return counted(ticks, uint64(len(mems)), mems...) }

// late puts out at each step what came in at the one ahead: of each kind that is handed in.
func late(kinds ...api.Kind) code.Program {
	p := code.Program{Ins: kinds, Outs: kinds, Slots: kinds, Mems: kinds}
	for k := range kinds {
		n := strconv.Itoa(k)
		p.Code = append(p.Code, read("load "+n+" "+n+"; out "+n+" "+n+"; in "+n+" "+n+"; keep "+n+" "+n)...)
	}
	return p
}

// stands holds where a machine stands, by all that tells it and changes nothing.
func stands(t *testing.T, what string, m *mach.Machine, want []byte) {
	t.Helper()
	ticks, _ := binary.Uvarint(want)
	if b := m.State(); !bytes.Equal(b, want) {
		t.Errorf("P17.2: %s: State: %x, want %x", what, b, want)
	}
	if d := m.Digest(); d != sha256.Sum256(want) {
		t.Errorf("P17.2: %s: Digest: %x, want that of %x", what, d, want)
	}
	if b := m.State(); !bytes.Equal(b, want) || m.Ticks() != int64(ticks) {
		t.Errorf("P17.2: %s: State asked again: %x, %d ticks, want %x", what, b, m.Ticks(), want)
	}
}

// load holds a Load that is not refused.
func load(t *testing.T, what string, m *mach.Machine, b []byte) {
	t.Helper()
	if e := m.Load(b); e != api.OK {
		t.Errorf("P17.2: %s: Load of %x: %v", what, b, e)
	}
	stands(t, what+", loaded", m, b)
}

// refused holds a Load that is refused, and changes nothing.
func refused(t *testing.T, what string, m *mach.Machine, b []byte) {
	t.Helper()
	was := m.State()
	if e := m.Load(b); e != api.EFORM {
		t.Errorf("P17.2: %s: Load of %x: %v, want EFORM", what, b, e)
	}
	stands(t, "R3: "+what+", refused", m, was)
}

// P17.2: State, in marked bytes: the ticks, how many memories, each of them.
func TestState(t *testing.T) {
	m := machine(t, code.Program{})
	stands(t, "New without memories", m, []byte{0, 0})
	step(t, m)
	step(t, m)
	stands(t, "two steps without memories", m, []byte{2, 0})
	m = machine(t, late(ki, kb, ki))
	stands(t, "New", m, []byte{0, 3, 0, 0, 0})
	step(t, m, -1, 1, 300)
	stands(t, "a step", m, []byte{1, 3, 1, 2, 216, 4})
	step(t, m, math.MinInt64, 0, 63)
	stands(t, "another step", m, []byte{2, 3, 255, 255, 255, 255, 255, 255, 255, 255, 255, 1, 0, 126})
	if _, e := m.Step(api.Row{1, 2, 3}); e != api.EARG {
		t.Errorf("P17.1: Step of a bool 2: %v", e)
	}
	stands(t, "a step that was refused", m, state(2, math.MinInt64, 0, 63))
	m.Reset()
	stands(t, "Reset", m, []byte{0, 3, 0, 0, 0})
	for k := range 130 {
		step(t, m, int64(-k), int64(k%2), int64(k*k))
		stands(t, "step "+strconv.Itoa(k), m, state(uint64(k+1), int64(-k), int64(k%2), int64(k*k)))
	}
	m = machine(t, late(ki))
	for k, v := range numbers() {
		step(t, m, v)
		stands(t, "a memory of "+strconv.FormatInt(v, 10), m, state(uint64(k+1), v))
	}
	for _, count := range []int{1, 2, 63, 64, 127, 128, 129, api.MaxSlots - 1, api.MaxSlots} {
		p := code.Program{Ins: []api.Kind{ki}, Slots: []api.Kind{ki}, Mems: slices.Repeat([]api.Kind{ki}, count), Code: read("in 0 0")}
		for k := range count {
			p.Code = append(p.Code, read("keep "+strconv.Itoa(k)+" 0; neg 0 0")...)
		}
		m, mems := machine(t, p), make([]int64, count)
		stands(t, "memories: "+strconv.Itoa(count), m, state(0, mems...))
		for k := range mems {
			mems[k] = []int64{1 << 40, -1 << 40}[k%2]
		}
		step(t, m, 1<<40)
		stands(t, "memories that were kept: "+strconv.Itoa(count), m, state(1, mems...))
	}
}

// P17.2: where it was loaded it stands, and goes on from there.
func TestLoad(t *testing.T) {
	p := late(ki, kb, ki)
	from := map[string]*mach.Machine{"New": machine(t, p), "a step": machine(t, p), "Load": machine(t, p), "Reset": machine(t, p)}
	step(t, from["a step"], 7, 1, -7)
	load(t, "ahead", from["Load"], state(most, math.MaxInt64, 1, math.MinInt64))
	step(t, from["Reset"], 7, 1, -7)
	from["Reset"].Reset()
	for what, m := range from {
		for k, v := range numbers() {
			is, ticks := int64(k%2), uint64(v)&(most-1)
			load(t, what, m, state(ticks, v, is, ^v))
			if out := step(t, m, 5, 1-is, 6); !slices.Equal(out, api.Row{v, is, ^v}) {
				t.Errorf("P17.2: a step behind %s and Load: %v, want %d %d %d", what, out, v, is, ^v)
			}
			stands(t, "a step behind "+what+" and Load", m, state(ticks+1, 5, 1-is, 6))
		}
		load(t, what, m, state(9, 9, 1, 9))
		m.Reset()
		stands(t, "Reset behind "+what+" and Load", m, state(0, 0, 0, 0))
		if out := step(t, m, 5, 1, 6); !slices.Equal(out, api.Row{0, 0, 0}) {
			t.Errorf("P17.2: a step behind %s, Load and Reset: %v", what, out)
		}
	}
	none := machine(t, code.Program{})
	load(t, "without memories", none, state(500))
	step(t, none)
	stands(t, "without memories, and a step", none, state(501))
	many := machine(t, code.Program{Mems: slices.Repeat([]api.Kind{ki}, api.MaxSlots)})
	mems := make([]int64, api.MaxSlots)
	for k := range mems {
		mems[k] = numbers()[k%300]
	}
	load(t, "as many memories as may be", many, state(3, mems...))
}

// P17.2: at most 2^62 ticks; from there on a machine goes on, but what it tells then can't be loaded.
func TestMostTicks(t *testing.T) {
	m, other := machine(t, late(ki)), machine(t, late(ki))
	step(t, m, 8)
	step(t, other, 8)
	for _, ticks := range []uint64{most + 1, most + 2, most + 1<<32, most | 1<<61, 1<<63 - 1, 1 << 63, 1<<63 + 1, 1<<63 + most, math.MaxUint64 - 1, math.MaxUint64} {
		refused(t, "too many ticks", m, state(ticks, 5))
	}
	for _, ticks := range []uint64{0, 1, 127, 128, 1 << 31, 1 << 32, 1 << 61, most - 1, most} {
		load(t, "ticks", m, state(ticks, 5))
	}
	if out := step(t, m, -3); !slices.Equal(out, api.Row{5}) || m.Ticks() != most+1 {
		t.Errorf("P17.1: a step behind as many ticks as may be: %v, %d", out, m.Ticks())
	}
	stands(t, "one more tick", m, state(most+1, -3))
	stands(t, "Copy with one more tick", m.Copy(), state(most+1, -3))
	refused(t, "one more tick", other, m.State())
	refused(t, "one more tick, of its own", m, m.State())
	load(t, "again", m, state(most, 5))
}

// P17.2: as many memories as p's.
func TestLoadCounts(t *testing.T) {
	for count := range 6 {
		m := machine(t, late(slices.Repeat([]api.Kind{ki}, count)...))
		step(t, m, []int64{5, -6, 7, -8, 9}[:count]...)
		for said := range uint64(8) {
			for there := range 8 {
				b := counted(4, said, make([]int64, there)...)
				if int(said) == count && there == count {
					load(t, "so many memories", m, b)
				} else {
					refused(t, "another count of memories", m, b)
				}
			}
		}
		for _, said := range []uint64{128, 256, 1 << 16, 1 << 31, 1 << 32, 1 << 62, 1 << 63, math.MaxUint64} {
			for _, n := range []uint64{said, said + uint64(count), said - uint64(count)} {
				if n != uint64(count) {
					refused(t, "a count that is far too great", m, counted(4, n, make([]int64, count)...))
				}
			}
		}
	}
	// Of another program with as many memories of the same kinds all is well, of other kinds not all.
	a, b := machine(t, late(ki, kb)), machine(t, some(adding))
	step(t, a, 1, 1)
	step(t, b, 0, 5, 0)
	refused(t, "another program's", a, b.State())
	refused(t, "another program's", b, a.State())
	c := machine(t, code.Program{Mems: []api.Kind{kb, kb}})
	load(t, "another program's with 0 and 1 alone", c, a.State())
	step(t, a, 2, 1)
	refused(t, "another program's with a 2", c, a.State())
}

// P17.2: bools 0 or 1, in each place; ints any.
func TestLoadBools(t *testing.T) {
	for set := range 32 {
		kinds := make([]api.Kind, 5)
		for k := range kinds {
			kinds[k] = []api.Kind{kb, ki}[set>>k&1]
		}
		m := machine(t, late(kinds...))
		for k, kind := range kinds {
			for _, v := range []int64{0, 1, 2, 3, -1, -2, 256, 257, 1 << 32, 1<<32 + 1, math.MaxInt64, math.MinInt64, math.MinInt64 + 1} {
				for _, rest := range []int64{0, 1} {
					mems := slices.Repeat([]int64{rest}, 5)
					mems[k] = v
					if kind == ki || v == 0 || v == 1 {
						load(t, "a memory", m, state(3, mems...))
					} else {
						refused(t, "a bool", m, state(3, mems...))
					}
				}
			}
		}
	}
}

// P17.2: bytes that are cut, have more behind or in them, or numbers that pack would not write so.
func TestLoadForm(t *testing.T) {
	for _, l := range [][]int64{nil, {0}, {1, 0}, {-300, 1, 1 << 40}, {math.MinInt64, 0, math.MaxInt64, 1}} {
		kinds := make([]api.Kind, len(l))
		for k := range l {
			kinds[k] = []api.Kind{ki, kb}[k%2]
		}
		m := machine(t, late(kinds...))
		for _, ticks := range []uint64{0, 300, most} {
			b := state(ticks, l...)
			for n := range b {
				refused(t, "cut at the end", m, b[:n])
			}
			for v := range 256 {
				refused(t, "a byte more", m, append(slices.Clone(b), byte(v)))
			}
			refused(t, "twice", m, append(slices.Clone(b), b...))
			refused(t, "many bytes more", m, append(slices.Clone(b), make([]byte, 5000)...))
			for n, c := range b {
				if c < 128 { // the last byte of a number, which could be written with noughts behind it
					refused(t, "a nought more in a number", m, slices.Concat(b[:n], []byte{c | 128, 0}, b[n+1:]))
					refused(t, "noughts more in a number", m, slices.Concat(b[:n], []byte{c | 128, 128, 128, 0}, b[n+1:]))
					refused(t, "a number without an end", m, slices.Concat(b[:n], bytes.Repeat([]byte{255}, 9), []byte{2}, b[n+1:]))
					refused(t, "a number of too many bytes", m, slices.Concat(b[:n], bytes.Repeat([]byte{129}, 10), []byte{1}, b[n+1:]))
				}
			}
			load(t, "behind all that", m, b)
		}
	}
	m := machine(t, late(kb, ki))
	step(t, m, 1, 5)
	for _, b := range [][]byte{nil, {}, {0}, {128}, {0, 128}, {2}, []byte("state"), bytes.Repeat([]byte{255}, 40), make([]byte, 3), make([]byte, 5)} {
		refused(t, "hardly anything", m, b)
	}
	if out := step(t, m, 0, 6); !slices.Equal(out, api.Row{1, 5}) || m.Ticks() != 2 {
		t.Errorf("R3: a step behind Loads that were refused: %v, %d ticks", out, m.Ticks())
	}
}

// P17.2: any two bytes of three places, against what they may be.
func TestLoadOfFewBytes(t *testing.T) {
	for k, kind := range []api.Kind{kb, ki} {
		m := machine(t, late(kind))
		for v := range 1 << 24 {
			b := []byte{byte(v), byte(v >> 8), byte(v >> 16)}
			fits := b[0] < 128 && b[1] == 1 && (b[2] == 0 || b[2] == 2 || k == 1 && b[2] < 128)
			if e := m.Load(b); fits != (e == api.OK) || !fits && e != api.EFORM {
				t.Fatalf("P17.2: Load of %x: %v", b, e)
			}
		}
	}
}

// P17.2: a digest is of the state alone, however it was come by, and of no other state.
func TestDigest(t *testing.T) {
	if d := machine(t, code.Program{}).Digest(); d != sha256.Sum256([]byte{0, 0}) {
		t.Errorf("P17.2: Digest of New: %x", d)
	}
	p := late(ki, kb)
	a, b := machine(t, p), machine(t, p)
	seen := map[[32]byte]string{}
	for k, v := range numbers() {
		step(t, a, v, int64(k%2))
		load(t, "Digest", b, state(uint64(k+1), v, int64(k%2)))
		if a.Digest() != b.Digest() || a.Copy().Digest() != b.Digest() {
			t.Errorf("P17.2: alike machines have digests that are not")
		}
		if was, ok := seen[a.Digest()]; ok {
			t.Errorf("P17.2: one digest of %x and %x", was, a.State())
		}
		seen[a.Digest()] = string(a.State())
	}
	a.Reset()
	if a.Digest() != machine(t, p).Digest() {
		t.Errorf("P17.1: another digest behind Reset than behind New")
	}
}

// P17.2: Copy is the same, and another one: what is told to either the other does not know.
func TestCopy(t *testing.T) {
	p := late(ki, kb)
	changes := map[string]struct {
		do   func(m *mach.Machine)
		want []byte
	}{
		"Step":  {func(m *mach.Machine) { step(t, m, 3, 0) }, state(3, 3, 0)},
		"Load":  {func(m *mach.Machine) { load(t, "of a copy", m, state(40, 4, 0)) }, state(40, 4, 0)},
		"Reset": {func(m *mach.Machine) { m.Reset() }, state(0, 0, 0)},
	}
	was := state(2, -2, 1)
	for what, change := range changes {
		for whose := range 3 {
			m := machine(t, p)
			step(t, m, 1, 1)
			step(t, m, -2, 1)
			l := []*mach.Machine{m, m.Copy(), nil}
			l[2] = l[1].Copy()
			for _, c := range l {
				stands(t, "a copy", c, was)
			}
			change.do(l[whose])
			for k, c := range l {
				want, tells := was, api.Row{-2, 1}
				if k == whose {
					want = change.want
					tells = map[string]api.Row{"Step": {3, 0}, "Load": {4, 0}, "Reset": {0, 0}}[what]
				}
				stands(t, what+" of one of three", c, want)
				if out := step(t, c, int64(k), 0); !slices.Equal(out, tells) {
					t.Errorf("P17.2: %s of one of three, then a step: %v, want %v", what, out, tells)
				}
			}
			for k, c := range l {
				c.Reset()
				stands(t, "Reset of "+strconv.Itoa(k), c, state(0, 0, 0))
			}
		}
	}
	m := machine(t, p)
	c := m.Copy()
	stands(t, "Copy of New", c, state(0, 0, 0))
	if out, e := c.Step(api.Row{1, 2}); e != api.EARG || out != nil {
		t.Errorf("P17.1: Step of a copy, of a bool 2: %v, %v", out, e)
	}
	refused(t, "a copy", c, state(1, 0, 2))
	stands(t, "Copy of what has no memories", machine(t, code.Program{}).Copy(), state(0))
}

// R4: what Load is given is not changed and not kept; what State tells is new memory; a copy keeps nothing of the program
// that was handed in.
func TestStateApart(t *testing.T) {
	p := late(ki, kb)
	m := machine(t, p)
	b := append(state(7, 100, 1), 77, 78)
	given := b[:len(b)-2]
	load(t, "with spare room", m, given)
	if !bytes.Equal(b, append(state(7, 100, 1), 77, 78)) {
		t.Errorf("R4: Load writes to what is handed in: %x", b)
	}
	for k := range b {
		b[k] = 255
	}
	stands(t, "R4: behind writing to what was loaded", m, state(7, 100, 1))
	one, two := m.State(), m.State()
	one = one[:cap(one)]
	for k := range one {
		one[k] = 255
	}
	if !bytes.Equal(two, state(7, 100, 1)) {
		t.Errorf("R4: two States share memory: %x", two)
	}
	stands(t, "R4: behind writing to what State told", m, state(7, 100, 1))
	c := m.Copy()
	clear(p.Ins)
	clear(p.Code)
	load(t, "a state that is its own", m, m.State())
	for _, c := range []*mach.Machine{c, c.Copy(), m} {
		if out := step(t, c, 5, 0); !slices.Equal(out, api.Row{100, 1}) {
			t.Errorf("R4: a step behind writing to the program that was handed in: %v", out)
		}
		refused(t, "R4: behind writing to the kinds that were handed in, a bool", c, state(7, 100, 2))
	}
}

// T6, R5: behind the same inputs all machines of one program have the same digest, whatever else was asked of them: steps
// that were refused, copies, a state that was loaded on the way.
func TestSameState(t *testing.T) {
	p := some("load 1 1; in 3 1; add 1 1 3; keep 1 1; load 0 0; in 2 0; xor 0 0 2; keep 0 0; unless 10 0; keep 2 1; load 4 2; out 0 4")
	plain, asked := machine(t, p), machine(t, p)
	for k := range int64(60) {
		in := api.Row{k % 3 % 2, k*k - 50*k, k}
		switch k % 5 {
		case 1:
			asked = asked.Copy()
		case 2:
			again := machine(t, p)
			load(t, "on the way", again, asked.State())
			asked = again
		case 3:
			asked.Step(in[:2])
			asked.Load(nil)
			asked.Copy().Step(in)
			asked.Copy().Reset()
		}
		a, b := step(t, plain, in...), step(t, asked, in...)
		if !slices.Equal(a, b) || plain.Digest() != asked.Digest() || plain.Ticks() != k+1 {
			t.Fatalf("T6: step %d: %v and %v, %x and %x", k, a, b, plain.State(), asked.State())
		}
	}
}

// isState tells whether bytes are a state of such memories, read by the library's numbers.
func isState(b []byte, kinds []api.Kind) bool {
	ticks, size := binary.Uvarint(b)
	if size <= 0 || ticks > most {
		return false
	}
	rest := b[size:]
	count, size := binary.Uvarint(rest)
	if size <= 0 || count != uint64(len(kinds)) {
		return false
	}
	rest = rest[size:]
	var mems []int64
	for _, k := range kinds {
		v, size := binary.Varint(rest)
		if size <= 0 || k == kb && v>>1 != 0 {
			return false
		}
		rest, mems = rest[size:], append(mems, v)
	}
	return bytes.Equal(b, state(ticks, mems...))
}

// P17.2, R1, R3: any bytes are a state that it stands at, or are refused.
func FuzzLoad(f *testing.F) {
	f.Add(state(0, 0, 0, 0), 3, byte(5))
	f.Add(state(most, math.MinInt64, 1), 2, byte(2))
	f.Add(state(300), 0, byte(0))
	f.Add([]byte{128, 0, 1, 0}, 1, byte(0))
	f.Fuzz(func(t *testing.T, b []byte, count int, set byte) {
		kinds := make([]api.Kind, count&7)
		for k := range kinds {
			kinds[k] = []api.Kind{ki, kb}[set>>k&1]
		}
		m := machine(t, late(kinds...))
		load(t, "ahead", m, state(9, slices.Repeat([]int64{1}, len(kinds))...))
		if isState(b, kinds) {
			load(t, "any bytes", m, b)
		} else {
			refused(t, "any bytes", m, b)
		}
	})
}
