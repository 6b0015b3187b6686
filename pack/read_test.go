package pack_test

import (
	"bytes"
	"encoding/binary"
	"math"
	"strings"
	"testing"

	"escapement/pack"
)

// checkBad asks all of a Reader that could not read something, several times.
func checkBad(t *testing.T, what string, r *pack.Reader) {
	t.Helper()
	for range 3 {
		if !r.Bad() || r.Left() != 0 {
			t.Errorf("P1.2: %s: bad %v, %d left", what, r.Bad(), r.Left())
		}
		if u, v, s := r.U(), r.I(), r.S(); u != 0 || v != 0 || s != "" {
			t.Errorf("P1.2: %s: a bad one reads %d, %d, %q", what, u, v, s)
		}
	}
}

// P1.2: what was written is read, from the first byte on, and Left counts down.
func TestReadsWhatWasWritten(t *testing.T) {
	var b []byte
	for _, u := range numbers() {
		b = pack.U(b, u)
	}
	for _, v := range signed() {
		b = pack.I(b, v)
	}
	for _, s := range texts() {
		b = pack.S(b, s)
	}
	r, left := pack.Read(b), len(b)
	check := func(what string, same bool, size int) {
		t.Helper()
		left -= size
		if !same || r.Left() != left || r.Bad() {
			t.Fatalf("P1.2: %s: same %v, %d left, want %d, bad %v", what, same, r.Left(), left, r.Bad())
		}
	}
	check("at first", true, 0)
	for _, u := range numbers() {
		check("U", r.U() == u, len(pack.U(nil, u)))
	}
	for _, v := range signed() {
		check("I", r.I() == v, len(pack.I(nil, v)))
	}
	for _, s := range texts() {
		check("S", r.S() == s, len(pack.S(nil, s)))
	}
	check("at the end", left == 0, 0)
	r.U()
	checkBad(t, "behind the end", r)
}

// P1.2: an empty Reader is not bad till it is read from.
func TestReadsNothing(t *testing.T) {
	for name, read := range map[string]func(r *pack.Reader){
		"U": func(r *pack.Reader) { r.U() },
		"I": func(r *pack.Reader) { r.I() },
		"S": func(r *pack.Reader) { r.S() },
	} {
		for _, b := range [][]byte{nil, {}} {
			r := pack.Read(b)
			if r.Bad() || r.Left() != 0 {
				t.Errorf("P1.2: %s: bad %v, %d left ahead of reading", name, r.Bad(), r.Left())
			}
			read(r)
			checkBad(t, name+" of nothing", r)
		}
	}
}

// notNumbers are bytes that no number of U's begins with, whatever stands behind them.
func notNumbers() map[string]string {
	nine := strings.Repeat("\xff", 9)
	return map[string]string{
		"0 in two bytes":           "\x80\x00",
		"127 in two bytes":         "\xff\x00",
		"a last byte 0 of three":   "\x80\x80\x00",
		"a last byte 0 of ten":     nine + "\x00",
		"the tenth above 1":        nine + "\x02",
		"the tenth above 1 by far": nine + "\x7f",
		"the tenth goes on":        nine + "\x80",
		"the tenth goes on from 1": nine + "\x81",
		"eleven bytes":             strings.Repeat("\x80", 10) + "\x01",
		"noughts that go on":       strings.Repeat("\x80", 40),
		"ones that go on":          strings.Repeat("\xff", 1000),
	}
}

// checkNoNumber reads b by each of the three calls.
func checkNoNumber(t *testing.T, what, b string) {
	t.Helper()
	r := pack.Read([]byte(b))
	if u := r.U(); u != 0 {
		t.Errorf("P1.2: U of %s: %d", what, u)
	}
	checkBad(t, "U of "+what, r)
	r = pack.Read([]byte(b))
	if v := r.I(); v != 0 {
		t.Errorf("P1.2: I of %s: %d", what, v)
	}
	checkBad(t, "I of "+what, r)
	r = pack.Read([]byte(b))
	if s := r.S(); s != "" {
		t.Errorf("P1.2: S of %s: %q", what, s)
	}
	checkBad(t, "S of "+what, r)
}

// P1.2: what U does not write can't be read, by none of the three, and nothing behind it either.
func TestReadsNoOtherNumbers(t *testing.T) {
	for name, b := range notNumbers() {
		checkNoNumber(t, name, b)
		checkNoNumber(t, name+", with good ones behind it", b+"\x01a\x01a")
	}
	for _, b := range []string{"", "\x80", "\x81", "\xff\xff\xff", strings.Repeat("\xff", 9)} {
		checkNoNumber(t, "bytes without a last one", b)
	}
}

// P1.2: a text is there whole, or it is nothing, however great its length.
func TestReadsWholeTextsAlone(t *testing.T) {
	for _, n := range []uint64{4, 5, 127, 128, 1 << 31, 1<<32 + 3, 1<<63 - 1, 1 << 63, 1<<63 + 3, math.MaxUint64 - 1, math.MaxUint64} {
		r := pack.Read(append(pack.U(nil, n), "abc"...))
		if s := r.S(); s != "" {
			t.Errorf("P1.2: a text of %d bytes: %q", n, s)
		}
		checkBad(t, "a text that is not whole", r)
	}
	r := pack.Read(append(pack.U(nil, 3), "abc"...))
	if s := r.S(); s != "abc" || r.Bad() || r.Left() != 0 {
		t.Errorf("P1.2: a text that ends where the bytes do: %q, bad %v", s, r.Bad())
	}
	r = pack.Read([]byte("\x00\x02ab\x01"))
	if a, b, left := r.S(), r.S(), r.Left(); a != "" || b != "ab" || left != 1 || r.Bad() {
		t.Errorf("P1.2: texts behind one another: %q, %q, %d left", a, b, left)
	}
	r.S()
	checkBad(t, "a text without its byte", r)
}

// varint reads as P1.2 says, by the library: what reads as a number, and is written so.
func varint(b []byte) (uint64, int) {
	u, size := binary.Uvarint(b)
	if size <= 0 || !bytes.Equal(binary.AppendUvarint(nil, u), b[:size]) {
		return 0, 0
	}
	return u, size
}

// checkLikeVarint reads b as a number, and holds that against the library.
func checkLikeVarint(t *testing.T, b []byte) {
	t.Helper()
	want, size := varint(b)
	left := len(b) - size
	if size == 0 {
		left = 0
	}
	r := pack.Read(b)
	if u := r.U(); u != want || r.Bad() != (size == 0) || r.Left() != left {
		t.Fatalf("P1.2: U of %x: %d, bad %v, %d left; want %d of %d bytes", b, u, r.Bad(), r.Left(), want, size)
	}
}

// P1.2: all numbers of one to three bytes, and all last bytes of nine to eleven.
func TestReadsLikeVarints(t *testing.T) {
	for x := range 1 << 16 {
		b := []byte{byte(x), byte(x >> 8)}
		checkLikeVarint(t, b[:1])
		checkLikeVarint(t, b)
		for _, c := range []byte{0, 1, 127, 128, 255} {
			checkLikeVarint(t, append(b, c))
		}
	}
	for _, c := range []byte{0x80, 0x81, 0xff} {
		for ahead := 8; ahead <= 10; ahead++ {
			for last := range 256 {
				checkLikeVarint(t, append(bytes.Repeat([]byte{c}, ahead), byte(last)))
			}
		}
	}
}

// P1.2: in between texts and numbers, at every place at which the bytes may end.
func TestReadsWhatWasCutOff(t *testing.T) {
	b := pack.S(pack.I(pack.U(nil, 300), math.MinInt64), "abc")
	const first, second = 2, 12
	for n := range b {
		r := pack.Read(b[:n])
		u, v, s := r.U(), r.I(), r.S()
		wantU, wantV := uint64(300), int64(math.MinInt64)
		if n < first {
			wantU = 0
		}
		if n < second {
			wantV = 0
		}
		if u != wantU || v != wantV || s != "" {
			t.Errorf("P1.2: the first %d bytes: %d, %d, %q", n, u, v, s)
		}
		checkBad(t, "bytes cut off", r)
	}
}

// R4: what is handed in is not kept, and not changed.
func TestReaderKeepsACopy(t *testing.T) {
	b := make([]byte, 0, 64)
	b = append(b, "\x05\x02ab\x80\x00"...)
	was := bytes.Clone(b[:cap(b)])
	r, other := pack.Read(b), pack.Read(b)
	if r.U() != 5 || r.S() != "ab" || r.U() != 0 || !r.Bad() {
		t.Errorf("P1.2: not read as written")
	}
	if !bytes.Equal(b[:cap(b)], was) {
		t.Errorf("R4: reading changed what was handed in: %x", b[:cap(b)])
	}
	for i := range b[:cap(b)] {
		b[:cap(b)][i] = 1
	}
	if u, s := other.U(), other.S(); u != 5 || s != "ab" || other.Bad() || other.Left() != 2 {
		t.Errorf("R4: what was handed in is kept: %d, %q", u, s)
	}
}

// P1.2: any bytes, read in any order, are read to an end without a fall; what is read is what was written.
func FuzzReader(f *testing.F) {
	f.Add([]byte("\xac\x02\x01\x02ab"), "UIS")
	f.Add([]byte("\x80\x00\x01"), "SUI")
	f.Add([]byte("\x03ab"), "SS")
	f.Add([]byte("\xff\xff\xff\xff\xff\xff\xff\xff\xff\x01ab"), "SU")
	f.Fuzz(func(t *testing.T, b []byte, calls string) {
		r := pack.Read(b)
		var written []byte
		for _, call := range []byte(calls) {
			before := written
			switch call {
			case 'U':
				written = pack.U(written, r.U())
			case 'I':
				written = pack.I(written, r.I())
			default:
				written = pack.S(written, r.S())
			}
			if r.Bad() {
				if !bytes.HasPrefix(b, before) {
					t.Fatalf("P1.2: read %x of %x", before, b)
				}
				checkBad(t, "any bytes", r)
				return
			}
			if len(written)+r.Left() != len(b) || !bytes.HasPrefix(b, written) {
				t.Fatalf("P1.2: read %x of %x, %d left", written, b, r.Left())
			}
		}
	})
}
