package pack_test

import (
	"bytes"
	"encoding/binary"
	"fmt"
	"math"
	"strings"
	"testing"

	"escapement/pack"
)

// numbers are those at which the bytes grow by one, their neighbours, and some between.
func numbers() []uint64 {
	l := []uint64{0, 1, 2, 5, 63, 64, 100, 300, 1000000, math.MaxUint64 - 1, math.MaxUint64}
	for bit := 1; bit < 64; bit++ {
		p := uint64(1) << bit
		l = append(l, p-1, p, p+1, p|0x55)
	}
	return l
}

// signed are the numbers, as they wrap round, and their negatives.
func signed() []int64 {
	var l []int64
	for _, u := range numbers() {
		l = append(l, int64(u), -int64(u))
	}
	return append(l, math.MinInt64, math.MinInt64+1, math.MaxInt64)
}

// texts are those whose lengths are written in one, two and three bytes, and some odd ones.
func texts() []string {
	l := []string{"", "a", "ab", "\x00", "\xff\x80", "\n", "na\u00efve \U0001f570"}
	for _, n := range []int{126, 127, 128, 129, 16383, 16384, 16385} {
		l = append(l, strings.Repeat("\x81", n))
	}
	return l
}

// P1.1: the document's examples, and the edges, byte by byte.
func TestBytesWritten(t *testing.T) {
	for _, c := range []struct {
		what string
		got  []byte
		want string
	}{
		{"U 0", pack.U(nil, 0), "\x00"},
		{"U 1", pack.U(nil, 1), "\x01"},
		{"U 127", pack.U(nil, 127), "\x7f"},
		{"U 128", pack.U(nil, 128), "\x80\x01"},
		{"U 300", pack.U(nil, 300), "\xac\x02"},
		{"U 16383", pack.U(nil, 16383), "\xff\x7f"},
		{"U 16384", pack.U(nil, 16384), "\x80\x80\x01"},
		{"U 2^63 - 1", pack.U(nil, 1<<63-1), "\xff\xff\xff\xff\xff\xff\xff\xff\x7f"},
		{"U 2^63", pack.U(nil, 1<<63), "\x80\x80\x80\x80\x80\x80\x80\x80\x80\x01"},
		{"U 2^64 - 1", pack.U(nil, math.MaxUint64), "\xff\xff\xff\xff\xff\xff\xff\xff\xff\x01"},
		{"I 0", pack.I(nil, 0), "\x00"},
		{"I -1", pack.I(nil, -1), "\x01"},
		{"I 1", pack.I(nil, 1), "\x02"},
		{"I -2", pack.I(nil, -2), "\x03"},
		{"I 63", pack.I(nil, 63), "\x7e"},
		{"I -64", pack.I(nil, -64), "\x7f"},
		{"I 64", pack.I(nil, 64), "\x80\x01"},
		{"I -65", pack.I(nil, -65), "\x81\x01"},
		{"I 2^63 - 1", pack.I(nil, math.MaxInt64), "\xfe\xff\xff\xff\xff\xff\xff\xff\xff\x01"},
		{"I -2^63", pack.I(nil, math.MinInt64), "\xff\xff\xff\xff\xff\xff\xff\xff\xff\x01"},
		{"S nothing", pack.S(nil, ""), "\x00"},
		{"S ab", pack.S(nil, "ab"), "\x02ab"},
		{"S bytes that are no runes", pack.S(nil, "\xff\x00"), "\x02\xff\x00"},
		{"U behind", pack.U([]byte("x"), 300), "x\xac\x02"},
		{"I behind", pack.I([]byte("xy"), -1), "xy\x01"},
		{"S behind", pack.S([]byte("\x80"), "a"), "\x80\x01a"},
		{"U behind an empty list", pack.U([]byte{}, 7), "\x07"},
	} {
		if string(c.got) != c.want {
			t.Errorf("P1.1: %s: %x, want %x", c.what, c.got, c.want)
		}
	}
}

// P1.1: what is written is b, and then the number or text as the library's varints have them.
func TestWrittenLikeVarints(t *testing.T) {
	ahead := []byte("ahead\x80")
	for _, u := range numbers() {
		if got, want := pack.U(ahead, u), binary.AppendUvarint(bytes.Clone(ahead), u); !bytes.Equal(got, want) {
			t.Errorf("P1.1: U %d: %x, want %x", u, got, want)
		}
	}
	for _, v := range signed() {
		if got, want := pack.I(ahead, v), binary.AppendVarint(bytes.Clone(ahead), v); !bytes.Equal(got, want) {
			t.Errorf("P1.1: I %d: %x, want %x", v, got, want)
		}
	}
	for _, s := range texts() {
		want := append(binary.AppendUvarint(bytes.Clone(ahead), uint64(len(s))), s...)
		if got := pack.S(ahead, s); !bytes.Equal(got, want) {
			t.Errorf("P1.1: S of %d bytes: %d bytes, want %d", len(s), len(got), len(want))
		}
	}
}

// writers are the three calls that write, each of several sizes.
func writers() map[string]func(b []byte) []byte {
	return map[string]func(b []byte) []byte{
		"U":          func(b []byte) []byte { return pack.U(b, 5) },
		"U at most":  func(b []byte) []byte { return pack.U(b, math.MaxUint64) },
		"I":          func(b []byte) []byte { return pack.I(b, -5) },
		"I at most":  func(b []byte) []byte { return pack.I(b, math.MinInt64) },
		"S":          func(b []byte) []byte { return pack.S(b, "abc") },
		"S, nothing": func(b []byte) []byte { return pack.S(b, "") },
	}
}

// R4: what is handed in is left as it is, its spare room too.
func TestWritersLeaveTheirArgument(t *testing.T) {
	for name, write := range writers() {
		all := bytes.Repeat([]byte{'.'}, 64)
		write(all[:3])
		if !bytes.Equal(all, bytes.Repeat([]byte{'.'}, 64)) {
			t.Errorf("R4: %s changed what was handed in, or its spare room: %q", name, all)
		}
	}
}

// R4: what is answered shares no memory, spare room too, with what was handed in, or with another answer.
func TestWritersAnswerNewMemory(t *testing.T) {
	for name, write := range writers() {
		all := bytes.Repeat([]byte{'.'}, 64)
		one, two := write(all[:3]), write(all[:3])
		want := bytes.Clone(two)
		for _, l := range [][]byte{all, one[:cap(one)]} {
			for i := range l {
				l[i] = '!'
			}
		}
		if !bytes.Equal(two, want) {
			t.Errorf("R4: %s: an answer shares memory: %q, want %q", name, two, want)
		}
		room := two[:cap(two)]
		for i := range room {
			room[i] = '?'
		}
		if bytes.Contains(all, []byte("?")) || bytes.Contains(one, []byte("?")) {
			t.Errorf("R4: %s: an answer's room is shared", name)
		}
	}
}

// R4: nil and an empty list are one; R5: the same arguments, the same answer.
func TestWritersHangOnTheirArgumentsAlone(t *testing.T) {
	for name, write := range writers() {
		want := write(nil)
		for _, b := range [][]byte{nil, {}, make([]byte, 0, 1), make([]byte, 0, 100)} {
			if got := write(b); !bytes.Equal(got, want) {
				t.Errorf("R5: %s: %x, want %x", name, got, want)
			}
		}
	}
}

func Example() {
	b := pack.S(pack.I(pack.U(nil, 300), -1), "ab")
	fmt.Println(b)
	r := pack.Read(b)
	fmt.Println(r.U(), r.I(), r.S(), r.Left(), r.Bad())
	// Output:
	// [172 2 1 2 97 98]
	// 300 -1 ab 0 false
}
