package code_test

import (
	"bytes"
	"math"
	"math/rand"
	"testing"

	"escapement/api"
	"escapement/code"
)

// P14.1: the bytes, written out; the sums were reckoned by other means.
func TestBytesWritten(t *testing.T) {
	for _, c := range []struct {
		what string
		p    code.Program
		want string
	}{
		{"nothing", code.Program{}, "\x53\x54\x45\x50" + "\x00\x00\x00\x00\x00\x00"},
		{"each list, in its place", code.Program{Ins: []api.Kind{1}, Outs: []api.Kind{2, 3}, Slots: []api.Kind{4, 5, 6}, Mems: []api.Kind{7, 8, 9, 10}, Consts: []int64{11, 12, 13, 14, 15}, Code: []code.Instr{{Op: 16, A: 17, B: 18, C: 19}}},
			"STEP" + "\x01\x02" + "\x02\x04\x06" + "\x03\x08\x0a\x0c" + "\x04\x0e\x10\x12\x14" + "\x05\x16\x18\x1a\x1c\x1e" + "\x01\x20\x22\x24\x26"},
		{"numbers below 0, and at the ends", code.Program{Ins: []api.Kind{-1}, Consts: []int64{math.MaxInt64, math.MinInt64}, Code: []code.Instr{{Op: -1, A: -2, B: -64, C: -65}}},
			"STEP" + "\x01\x01" + "\x00\x00\x00" + "\x02\xfe\xff\xff\xff\xff\xff\xff\xff\xff\x01\xff\xff\xff\xff\xff\xff\xff\xff\xff\x01" + "\x01\x01\x03\x7f\x81\x01"},
		{"operands that the row does not name", code.Program{Code: []code.Instr{{Op: 20, A: 1, B: 2, C: 3}, {Op: 99, A: 4, B: 5, C: 6}}},
			"STEP" + "\x00\x00\x00\x00\x00" + "\x02\x28\x02\x04\x06\xc6\x01\x08\x0a\x0c"},
	} {
		got := code.Encode(c.p)
		if want := summed([]byte(c.want)); !bytes.Equal(got, want) {
			t.Errorf("P14.1: Encode, %s: %x, want %x", c.what, got, want)
		}
	}
	if got := code.Encode(code.Program{}); string(got[10:]) != "\x79\x60\xbf\xdc" {
		t.Errorf("P14.1: the sum of the empty program: %x", got[10:])
	}
}

// P14.1: programs of all sorts, by the library's means.
func TestEncodeLikeTheLibrary(t *testing.T) {
	for i, p := range some() {
		if got, want := code.Encode(p), encoded(p); !bytes.Equal(got, want) {
			t.Errorf("P14.1: Encode of number %d: %x, want %x", i, got, want)
		}
	}
}

// sized has n items in one list.
func sized(list, n int) code.Program {
	var p code.Program
	kinds := []*[]api.Kind{&p.Ins, &p.Outs, &p.Slots, &p.Mems}
	switch {
	case list < len(kinds):
		*kinds[list] = make([]api.Kind, n)
	case list == len(kinds):
		p.Consts = make([]int64, n)
	default:
		p.Code = make([]code.Instr, n)
	}
	return p
}

// P14.1: lists whose size has one, two and three bytes; more than the limits may be there, no call of this chapter refuses it.
func TestSizes(t *testing.T) {
	for list := range 6 {
		for _, n := range []int{1, 2, 63, 64, 65, 127, 128, 129, 255, 256, api.MaxSlots + 1, api.MaxCode + 1, 16383, 16384, 16385} {
			p := sized(list, n)
			b := code.Encode(p)
			if !bytes.Equal(b, encoded(p)) {
				t.Errorf("P14.1: Encode of %d in list %d is wrong", n, list)
			}
			if q, e := code.Decode(b); e != api.OK || !alike(p, q) {
				t.Errorf("P14.1: Decode of %d in list %d: %d", n, list, e)
			}
		}
	}
}

// P14.1: each number in each place.
func TestNumbers(t *testing.T) {
	for _, v := range ints() {
		for place, set := range setters() {
			p := full()
			set(&p, v)
			if b := code.Encode(p); !bytes.Equal(b, encoded(p)) {
				t.Errorf("P14.1: Encode with %d at place %d: %x", v, place, b)
			} else if q, e := code.Decode(b); e != api.OK || !alike(p, q) {
				t.Errorf("P14.1: Decode with %d at place %d: %v, %d", v, place, q, e)
			}
		}
	}
}

// R1: a program far greater than the limits takes no more than its length in time.
func TestGreat(t *testing.T) {
	if testing.Short() {
		t.Skip("takes a second")
	}
	m := maker{rand.New(rand.NewSource(3))}
	p := sized(5, 400000)
	for i := range p.Code {
		p.Code[i] = m.instr()
	}
	p.Slots = make([]api.Kind, 1000000)
	p.Consts = make([]int64, 1000000)
	b := code.Encode(p)
	if !bytes.Equal(b, encoded(p)) {
		t.Errorf("P14.1: Encode of a great program is wrong")
	}
	if q, e := code.Decode(b); e != api.OK || !alike(p, q) {
		t.Errorf("P14.1: Decode of a great program: %d", e)
	}
	b[len(b)/2] ^= 1
	if q, e := code.Decode(b); e != api.EFORM || !isZero(q) {
		t.Errorf("P14.1: Decode of a great program, spoilt: %d", e)
	}
}

// roomy is l with room behind it, filled.
func roomy[T any](l []T, fill T) []T {
	all := make([]T, len(l)+8)
	copy(all, l)
	for i := len(l); i < len(all); i++ {
		all[i] = fill
	}
	return all[:len(l)]
}

// R4: a program that is handed in stays as it was, what lies behind its lists included.
func TestEncodeChangesNothing(t *testing.T) {
	for i, p := range some() {
		q := code.Program{
			Ins: roomy(p.Ins, 99), Outs: roomy(p.Outs, 99), Slots: roomy(p.Slots, 99), Mems: roomy(p.Mems, 99),
			Consts: roomy(p.Consts, 99), Code: roomy(p.Code, code.Instr{Op: 99}),
		}
		code.Encode(q)
		code.Same(q, q)
		code.Same(p, q)
		if !alike(p, q) || !roomIsLeft(q) {
			t.Errorf("R4: number %d was changed", i)
		}
	}
}

// roomIsLeft tells whether what roomy laid behind the lists is there still.
func roomIsLeft(p code.Program) bool {
	for _, l := range [][]api.Kind{p.Ins, p.Outs, p.Slots, p.Mems} {
		for _, k := range l[len(l):cap(l)] {
			if k != 99 {
				return false
			}
		}
	}
	for _, v := range p.Consts[len(p.Consts):cap(p.Consts)] {
		if v != 99 {
			return false
		}
	}
	for _, i := range p.Code[len(p.Code):cap(p.Code)] {
		if i != (code.Instr{Op: 99}) {
			return false
		}
	}
	return true
}

// R4, R5: each answer is new memory, and the same again.
func TestEncodeTwice(t *testing.T) {
	for i, p := range some() {
		b := code.Encode(p)
		for at := range b[:cap(b)] {
			b[:cap(b)][at] = 0xa5
		}
		if !bytes.Equal(code.Encode(p), encoded(p)) {
			t.Errorf("R4: the bytes of number %d, spoilt, are told again", i)
		}
	}
}
