package code

import (
	"bytes"

	"escapement/api"
	"escapement/pack"
	"escapement/sum"
)

// mark is what a program's bytes begin with: 83, 84, 69, 80.
const mark = "STEP"

// sumSize is how many bytes the sum behind all others has.
const sumSize = 4

// Encode makes a program bytes.
func Encode(p Program) []byte {
	b := []byte(mark)
	b = addNumbers(b, p.Ins)
	b = addNumbers(b, p.Outs)
	b = addNumbers(b, p.Slots)
	b = addNumbers(b, p.Mems)
	b = addNumbers(b, p.Consts)
	b = addCode(b, p.Code)
	s := sum.Crc(b)
	return append(b, byte(s), byte(s>>8), byte(s>>16), byte(s>>24))
}

// Decode reads it.
func Decode(b []byte) (Program, api.Errno) {
	p := read(b)
	// What was read is held against b whole: so the mark, the sum, numbers that could not be read, and what is left need no asking of their own.
	if !bytes.Equal(Encode(p), b) {
		return Program{}, api.EFORM
	}
	return p, api.OK
}

// Same tells whether two are the same.
func Same(p, q Program) bool {
	return bytes.Equal(Encode(p), Encode(q))
}

// addNumbers writes a list of numbers behind b.
func addNumbers[T ~int | ~int64](b []byte, l []T) []byte {
	b = addSize(b, len(l))
	for _, v := range l {
		b = addNumber(b, int64(v))
	}
	return b
}

// addCode writes instructions behind b, all four numbers of each.
func addCode(b []byte, l []Instr) []byte {
	b = addSize(b, len(l))
	for _, i := range l {
		for _, v := range [...]int{i.Op, i.A, i.B, i.C} {
			b = addNumber(b, int64(v))
		}
	}
	return b
}

// addSize writes how many there are. It is put behind b here, not by pack, which would copy all of b each time.
func addSize(b []byte, n int) []byte {
	return append(b, pack.U(nil, uint64(n))...)
}

// addNumber writes one number, put behind b as addSize does.
func addNumber(b []byte, v int64) []byte {
	return append(b, pack.I(nil, v)...)
}

// read reads what stands between the mark and the sum, as far as it can be read.
func read(b []byte) Program {
	var p Program
	if len(b) < len(mark)+sumSize {
		return p
	}
	r := pack.Read(b[len(mark) : len(b)-sumSize])
	p.Ins = readNumbers[api.Kind](r)
	p.Outs = readNumbers[api.Kind](r)
	p.Slots = readNumbers[api.Kind](r)
	p.Mems = readNumbers[api.Kind](r)
	p.Consts = readNumbers[int64](r)
	p.Code = readCode(r)
	return p
}

// readNumbers reads a list of numbers. It trusts no size: the list grows by what is there, and a Reader with nothing left is bad.
func readNumbers[T ~int | ~int64](r *pack.Reader) []T {
	var l []T
	for n := r.U(); n > 0 && !r.Bad(); n-- {
		l = append(l, T(r.I()))
	}
	return l
}

// readCode reads instructions, likewise.
func readCode(r *pack.Reader) []Instr {
	var l []Instr
	for n := r.U(); n > 0 && !r.Bad(); n-- {
		l = append(l, Instr{Op: readInt(r), A: readInt(r), B: readInt(r), C: readInt(r)})
	}
	return l
}

// readInt reads one number.
func readInt(r *pack.Reader) int {
	return int(r.I())
}
