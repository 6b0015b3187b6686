package code_test

import (
	"bytes"
	"encoding/binary"
	"hash/crc32"
	"math/rand"
	"slices"
	"strings"
	"testing"

	"escapement/api"
	"escapement/code"
)

// checkRefused asks Decode of what is no program's bytes.
func checkRefused(t *testing.T, what string, b []byte) {
	t.Helper()
	if p, e := code.Decode(b); e != api.EFORM || !isZero(p) {
		t.Errorf("P14.1: Decode, %s: %+v, %d, want EFORM", what, p, e)
	}
}

// checkLikeDecoded holds Decode's answer against that of the going through.
func checkLikeDecoded(t *testing.T, b []byte) {
	t.Helper()
	want, ok := decoded(b)
	if !ok {
		checkRefused(t, "bytes of no program", b)
		return
	}
	if p, e := code.Decode(b); e != api.OK || !alike(p, want) {
		t.Errorf("P14.1: Decode of %x: %+v, %d, want %+v", b, p, e, want)
	}
}

// P14.1: what Encode made is read again.
func TestDecode(t *testing.T) {
	for i, p := range some() {
		if q, e := code.Decode(code.Encode(p)); e != api.OK || !alike(p, q) {
			t.Errorf("P14.1: number %d: %+v, %d, want %+v", i, q, e, p)
		}
	}
}

// P14.1: nothing, and what is too short for the mark and the sum.
func TestDecodeOfHardlyAnything(t *testing.T) {
	checkRefused(t, "nil", nil)
	checkRefused(t, "nothing", []byte{})
	for n := range 14 {
		checkRefused(t, "noughts", make([]byte, n))
		checkRefused(t, "noughts with a sum", summed(make([]byte, n)))
	}
	whole := "STEP" + strings.Repeat("\x00", 6)
	for n := range whole {
		checkRefused(t, "a beginning of the mark and the lists, without a sum", []byte(whole[:n]))
		checkRefused(t, "a beginning of the mark and the lists, with a sum", summed([]byte(whole[:n])))
	}
}

// P14.1: bytes cut anywhere, at either end, with their old sum and with one that fits.
func TestDecodeOfCut(t *testing.T) {
	for _, p := range some() {
		b := code.Encode(p)
		for n := range b {
			checkRefused(t, "cut at the end", b[:n])
			checkRefused(t, "cut at the beginning", b[n+1:])
		}
		body := b[4 : len(b)-4]
		for n := range body {
			checkRefused(t, "cut at the end, the sum fits", framed(body[:n]))
			checkLikeDecoded(t, framed(body[n+1:]))
		}
	}
}

// P14.1: bytes more, at either end and anywhere, with their old sum and with one that fits.
func TestDecodeOfMore(t *testing.T) {
	for _, p := range some() {
		b := code.Encode(p)
		body := b[4 : len(b)-4]
		for _, more := range []byte{0, 1, 2, 83, 128, 255} {
			checkRefused(t, "a byte behind all", append(slices.Clone(b), more))
			checkRefused(t, "a byte ahead of all", append([]byte{more}, b...))
			checkRefused(t, "a byte behind the lists", framed(append(slices.Clone(body), more)))
			for at := range body {
				checkLikeDecoded(t, framed(slices.Insert(slices.Clone(body), at, more)))
			}
		}
		checkRefused(t, "twice", append(slices.Clone(b), b...))
		checkRefused(t, "a sum behind the sum", summed(b))
	}
}

// P14.1: each bit turned, with the old sum; the sum's bits as well.
func TestDecodeOfTurned(t *testing.T) {
	for _, p := range some()[:20] {
		b := code.Encode(p)
		for at := range b {
			for bit := range 8 {
				c := slices.Clone(b)
				c[at] ^= 1 << bit
				checkRefused(t, "a bit turned", c)
			}
		}
	}
}

// P14.1: each byte another, with a sum that fits: another program, or none.
func TestDecodeOfOthers(t *testing.T) {
	b := code.Encode(full())
	for at := range len(b) - 4 {
		for v := range 256 {
			c := slices.Clone(b[:len(b)-4])
			c[at] = byte(v)
			checkLikeDecoded(t, summed(c))
		}
	}
}

// P14.1: another mark, with a sum that fits.
func TestDecodeOfAnotherMark(t *testing.T) {
	b := code.Encode(full())
	body := b[4 : len(b)-4]
	for _, mark := range []string{"", "S", "STE", "STEPS", "STEQ", "SteP", "step", "PETS", "TSEP", " STEP", "\x00\x00\x00\x00", "STEPSTEP"} {
		checkRefused(t, "the mark "+mark, summed(append([]byte(mark), body...)))
	}
}

// P14.1: another sum: highest first, of less or more, turned, or of another kind.
func TestDecodeOfAnotherSum(t *testing.T) {
	for _, p := range some() {
		b := code.Encode(p)
		all := b[:len(b)-4]
		crc := crc32.ChecksumIEEE(all)
		for what, s := range map[string]uint32{
			"nought": 0, "turned": ^crc, "one more": crc + 1, "one less": crc - 1,
			"without the mark": crc32.ChecksumIEEE(all[4:]), "of noughts behind it": crc32.ChecksumIEEE(append(slices.Clone(all), 0, 0, 0, 0)),
			"by another polynomial": crc32.Checksum(all, crc32.MakeTable(crc32.Castagnoli)),
		} {
			checkRefused(t, "a sum "+what, binary.LittleEndian.AppendUint32(slices.Clone(all), s))
		}
		checkRefused(t, "a sum highest first", binary.BigEndian.AppendUint32(slices.Clone(all), crc))
	}
}

// P14.1: sizes above what is there, however great: refused, and at once.
func TestDecodeOfSizesTooGreat(t *testing.T) {
	for list := range 6 {
		ahead := bytes.Repeat([]byte{0}, list)
		behind := bytes.Repeat([]byte{0}, 5-list)
		for bit := range 64 {
			for _, n := range []uint64{1 << bit, 1<<bit + 1, 1<<bit - 1, ^uint64(0) - 1<<bit, ^uint64(0) - 1<<bit + 1, ^uint64(0)} {
				size := binary.AppendUvarint(nil, n)
				for _, body := range [][]byte{slices.Concat(ahead, size), slices.Concat(ahead, size, behind), slices.Concat(ahead, size, make([]byte, 30))} {
					checkLikeDecoded(t, framed(body))
				}
			}
		}
	}
}

// spread writes a number with bytes that need not be, which pack's U would not.
func spread(b []byte, extra int) []byte {
	l := slices.Clone(b)
	l[len(l)-1] |= 128
	for range extra - 1 {
		l = append(l, 128)
	}
	return append(l, 0)
}

// cuts parts a program's body into its numbers.
func cuts(body []byte) [][]byte {
	var l [][]byte
	for len(body) > 0 {
		_, n := binary.Uvarint(body)
		l = append(l, body[:n])
		body = body[n:]
	}
	return l
}

// P14.1: each number, sizes too, written with a byte or more that need not be, or past 64 bits.
func TestDecodeOfNumbersWrittenOtherwise(t *testing.T) {
	for _, p := range some()[:20] {
		b := code.Encode(p)
		l := cuts(b[4 : len(b)-4])
		for at := range l {
			for extra := 1; extra < 11; extra++ {
				m := slices.Clone(l)
				m[at] = spread(l[at], extra)
				checkRefused(t, "a number with bytes that need not be", framed(slices.Concat(m...)))
			}
			for _, odd := range []string{"\xff\xff\xff\xff\xff\xff\xff\xff\xff\x02", "\x80\x80\x80\x80\x80\x80\x80\x80\x80\x80\x01", "\xff\xff\xff\xff\xff\xff\xff\xff\xff\xff\x01", "\x80"} {
				m := slices.Clone(l)
				m[at] = []byte(odd)
				checkLikeDecoded(t, framed(slices.Concat(m...)))
			}
		}
	}
}

// P14.1: a list taken away, doubled, or put elsewhere.
func TestDecodeOfListsElsewhere(t *testing.T) {
	lists := []string{"\x02\x04\x02", "\x01\x06", "\x03\x08\x0a\x0c", "\x02\x0e\x0f", "\x01\xd7\x04", "\x01\x10\x12\x14\x16"}
	checkLikeDecoded(t, framed([]byte(strings.Join(lists, ""))))
	for at := range lists {
		checkLikeDecoded(t, framed([]byte(strings.Join(slices.Delete(slices.Clone(lists), at, at+1), ""))))
		for to := range lists {
			l := slices.Insert(slices.Clone(lists), to, lists[at])
			checkLikeDecoded(t, framed([]byte(strings.Join(l, ""))))
			l = slices.Clone(lists)
			l[at], l[to] = l[to], l[at]
			checkLikeDecoded(t, framed([]byte(strings.Join(l, ""))))
		}
	}
}

// spoilt is a program's bytes with something done to them, mostly with a sum that fits.
func (m maker) spoilt() []byte {
	body := encoded(m.program(6))
	body = body[4 : len(body)-4]
	for range m.Intn(4) {
		at := m.Intn(len(body))
		switch m.Intn(4) {
		case 0:
			body[at] = byte(m.Intn(256))
		case 1:
			body = slices.Insert(body, at, byte(m.Intn(256)))
		case 2:
			body[at] ^= 1 << m.Intn(8)
		case 3:
			if len(body) > 1 {
				body = slices.Delete(body, at, at+1)
			}
		}
	}
	b := framed(body)
	if m.Intn(8) == 0 {
		b[m.Intn(len(b))] ^= 1 << m.Intn(8)
	}
	return b
}

// P14.1: random bytes, spoilt ones mostly, against the going through.
func TestDecodeOfSpoilt(t *testing.T) {
	m := maker{rand.New(rand.NewSource(5))}
	rounds := 300000
	if testing.Short() {
		rounds = 20000
	}
	for range rounds {
		checkLikeDecoded(t, m.spoilt())
	}
}

// P14.1: all bodies of a few bytes, with a sum that fits.
func TestDecodeOfAllShort(t *testing.T) {
	digits := []byte{0, 1, 2, 128}
	for n := range 9 {
		body := make([]byte, n)
		all := 1
		for range n {
			all *= len(digits)
		}
		for number := range all {
			for at := range body {
				body[at] = digits[number%len(digits)]
				number /= len(digits)
			}
			checkLikeDecoded(t, framed(body))
		}
	}
}

// R4: the bytes that are handed in stay as they were, and are not kept.
func TestDecodeKeepsNothing(t *testing.T) {
	for i, p := range some() {
		b := code.Encode(p)
		l := roomy(b, 0xa5)
		q, _ := code.Decode(l)
		if !bytes.Equal(l, b) || !bytes.Equal(l[len(l):cap(l)], bytes.Repeat([]byte{0xa5}, 8)) {
			t.Errorf("R4: Decode of number %d changed its bytes", i)
		}
		clear(l[:cap(l)])
		if !alike(p, q) {
			t.Errorf("R4: number %d changed with the bytes it was read from", i)
		}
	}
}

// stretched writes into the room behind each list of a program.
func stretched(p code.Program) {
	for _, l := range [][]api.Kind{p.Ins, p.Outs, p.Slots, p.Mems} {
		for i := range l[len(l):cap(l)] {
			l[len(l):cap(l)][i] = 99
		}
	}
	clear(p.Consts[len(p.Consts):cap(p.Consts)])
	clear(p.Code[len(p.Code):cap(p.Code)])
}

// R4: no two lists of an answer share memory, spare room included; nor do two answers.
func TestDecodedListsAreApart(t *testing.T) {
	for i, p := range some() {
		b := code.Encode(p)
		q, _ := code.Decode(b)
		r, _ := code.Decode(b)
		stretched(q)
		if !alike(p, q) || !alike(p, r) {
			t.Errorf("R4: number %d: what is laid behind one list stands in another", i)
		}
		for _, l := range [][]api.Kind{q.Ins, q.Outs, q.Slots, q.Mems} {
			old := slices.Clone(l)
			for at := range l {
				l[at] = 77
			}
			for _, k := range slices.Concat(r.Ins, r.Outs, r.Slots, r.Mems) {
				if k == 77 {
					t.Fatalf("R4: number %d: two answers share a list", i)
				}
			}
			copy(l, old)
			if !alike(p, q) {
				t.Fatalf("R4: number %d: two lists share memory", i)
			}
		}
		clear(q.Consts)
		clear(q.Code)
		if !alike(p, r) {
			t.Errorf("R4: number %d: two answers share their constants or instructions", i)
		}
	}
}

// R3, R5: what was asked ahead, refused or not, changes nothing.
func TestDecodeTwice(t *testing.T) {
	for i, p := range some() {
		b := code.Encode(p)
		for range 3 {
			if q, e := code.Decode(b); e != api.OK || !alike(p, q) {
				t.Errorf("R5: number %d, asked again: %+v, %d", i, q, e)
			}
			checkRefused(t, "asked between", b[:len(b)-1])
		}
	}
}

// FuzzDecode looks for bytes that Decode reads wrongly: as they are, and with a mark and a sum round them.
func FuzzDecode(f *testing.F) {
	for _, p := range some() {
		b := code.Encode(p)
		f.Add(b)
		f.Add(b[4 : len(b)-4])
	}
	f.Fuzz(func(t *testing.T, b []byte) {
		checkLikeDecoded(t, b)
		checkLikeDecoded(t, framed(b))
		if p, e := code.Decode(framed(b)); e == api.OK && !bytes.Equal(code.Encode(p), framed(b)) {
			t.Errorf("P14.1: Encode of what was read is something else: %x", b)
		}
	})
}
