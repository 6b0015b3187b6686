package sum_test

import (
	"bytes"
	"encoding/binary"
	"fmt"
	"hash/crc32"
	"math"
	"testing"

	"escapement/sum"
)

// forged is a frame as the document tells it, whatever its parts: the sum fits.
func forged(mark byte, size uint32, n uint64, text []byte) []byte {
	head := binary.LittleEndian.AppendUint64(binary.LittleEndian.AppendUint32(nil, size), n)
	crc := crc32.ChecksumIEEE(append(bytes.Clone(head), text...))
	return append(binary.LittleEndian.AppendUint32(append([]byte{mark}, head...), crc), text...)
}

// whole is a frame as it ought to be.
func whole(n uint64, text []byte) []byte {
	return forged(90, uint32(len(text)), n, text)
}

// texts are short and long ones, with the bytes of heads in them.
func texts() [][]byte {
	l := [][]byte{nil, {}, {0}, {90}, []byte("ab"), whole(3, nil), noise(16, 2), noise(17, 3)}
	for _, n := range []int{255, 256, 257, 4096, 59999, 60000} {
		l = append(l, noise(n, int64(n)))
	}
	return l
}

// counts are numbers at the edges of each of their bytes.
func counts() []uint64 {
	l := []uint64{0, 1, 7, 0x0102030405060708, math.MaxInt64, 1 << 63, math.MaxUint64 - 1, math.MaxUint64}
	for bit := 8; bit < 64; bit += 8 {
		l = append(l, 1<<bit-1, 1<<bit)
	}
	return l
}

// P2.1: the bytes of a frame, written out.
func TestFrameBytes(t *testing.T) {
	want := "\x5a\x02\x00\x00\x00\x07\x00\x00\x00\x00\x00\x00\x00" + "\x81\xfc\x53\x0d" + "ab"
	if got := sum.Frame(7, []byte("ab")); string(got) != want {
		t.Errorf("P2.1: Frame(7, ab): %x, want %x", got, want)
	}
	want = "\x5a\x00\x01\x00\x00\x08\x07\x06\x05\x04\x03\x02\x01"
	if got := sum.Frame(0x0102030405060708, make([]byte, 256)); len(got) != 17+256 || string(got[:13]) != want {
		t.Errorf("P2.1: the lowest byte does not stand first: %x", got[:13])
	}
}

// P2.1: frames of all sizes and numbers, built here by the library's means.
func TestFrameLikeTheLibrary(t *testing.T) {
	for _, text := range texts() {
		for _, n := range counts() {
			if got := sum.Frame(n, text); !bytes.Equal(got, whole(n, text)) {
				t.Errorf("P2.1: Frame(%d, %d bytes) is wrong", n, len(text))
			}
		}
	}
}

// P2.1: a text of 60000 bytes has a frame, one of more has none.
func TestFrameAtMost(t *testing.T) {
	if got := sum.Frame(1, make([]byte, 60000)); len(got) != 60017 {
		t.Errorf("P2.1: Frame of 60000 bytes: %d bytes", len(got))
	}
	for _, n := range []int{60001, 60002, 65536, 65537, 1 << 20} {
		if got := sum.Frame(1, make([]byte, n)); len(got) != 0 {
			t.Errorf("P2.1: Frame of %d bytes: %d bytes, want none", n, len(got))
		}
	}
}

// checkTake holds Take's answer against what it ought to be.
func checkTake(t *testing.T, what string, b []byte, n uint64, text []byte, size int) {
	t.Helper()
	gotN, gotText, gotSize := sum.Take(b)
	if gotN != n || !bytes.Equal(gotText, text) || gotSize != size {
		t.Errorf("P2.1: Take of %s: %d, %d bytes, %d; want %d, %d bytes, %d", what, gotN, len(gotText), gotSize, n, len(text), size)
	}
}

// P2.1: what Frame framed, Take takes, whatever stands behind it.
func TestTakeWhatWasFramed(t *testing.T) {
	for _, text := range texts() {
		for _, n := range counts() {
			f := sum.Frame(n, text)
			what := fmt.Sprintf("Frame(%d, %d bytes)", n, len(text))
			checkTake(t, what, f, n, text, 17+len(text))
			for _, more := range [][]byte{{0}, {90}, f, noise(100, 9)} {
				checkTake(t, what+" and more", append(bytes.Clone(f), more...), n, text, 17+len(text))
			}
			checkTake(t, what+" behind another byte", append([]byte{0}, f...), 0, nil, 0)
		}
	}
}

// P2.1, R2: a frame that is cut anywhere is none, though its bytes stand in the list's spare room.
func TestTakeCut(t *testing.T) {
	for _, text := range [][]byte{nil, []byte("ab"), noise(40, 4)} {
		f := sum.Frame(300, text)
		for cut := range f {
			checkTake(t, fmt.Sprintf("the first %d bytes", cut), f[:cut], 0, nil, 0)
			checkTake(t, fmt.Sprintf("all from byte %d on", cut+1), f[cut+1:], 0, nil, 0)
		}
	}
	great := sum.Frame(1, noise(60000, 6))
	checkTake(t, "all but the last of the greatest", great[:60016], 0, nil, 0)
}

// P2.1, R2: a frame with one bit turned is none.
func TestTakeTurned(t *testing.T) {
	for _, text := range [][]byte{nil, []byte("ab"), noise(40, 4)} {
		f := sum.Frame(300, text)
		for bit := range 8 * len(f) {
			g := append(bytes.Clone(f), noise(300, 8)...)
			g[bit/8] ^= 1 << (bit % 8)
			checkTake(t, fmt.Sprintf("%d bytes with the bit %d turned", len(f), bit), g, 0, nil, 0)
		}
	}
}

// P2.1, R2: bytes that are nearly a frame, with a sum that fits what is there.
func TestTakeForged(t *testing.T) {
	ab := []byte("ab")
	for what, b := range map[string][]byte{
		"another mark":            forged(91, 2, 7, ab),
		"the mark 0":              forged(0, 2, 7, ab),
		"a size past the end":     forged(90, 3, 7, ab),
		"a size short of the end": forged(90, 1, 7, ab),
		"the greatest size":       forged(90, math.MaxUint32, 7, ab),
		"a size below 0":          forged(90, 1<<31, 7, ab),
		"a size past by 2^16":     forged(90, 1<<16+2, 7, ab),
		"a size past by 2^24":     forged(90, 1<<24+2, 7, ab),
		"60001 bytes":             forged(90, 60001, 7, make([]byte, 60001)),
		"2^17 bytes":              forged(90, 1<<17, 7, make([]byte, 1<<17)),
		"noughts":                 make([]byte, 100),
		"marks":                   bytes.Repeat([]byte{90}, 100),
		"ones":                    bytes.Repeat([]byte{255}, 100),
		"nothing":                 {},
	} {
		checkTake(t, what, b, 0, nil, 0)
		l, size := sum.All(b, 7)
		if len(l) != 0 || size != 0 {
			t.Errorf("P2.1: All of %s: %d, %d", what, len(l), size)
		}
	}
	checkTake(t, "nil", nil, 0, nil, 0)
}

// P2.1: a sum over less, over more or in another order does not fit.
func TestTakeOtherSums(t *testing.T) {
	f := sum.Frame(7, []byte("ab"))
	for what, crc := range map[string]uint32{
		"the text alone":    sum.Crc(f[17:]),
		"the twelve alone":  sum.Crc(f[1:13]),
		"the mark too":      sum.Crc(append(bytes.Clone(f[:13]), f[17:]...)),
		"the text first":    sum.Crc(append(bytes.Clone(f[17:]), f[1:13]...)),
		"the number first":  sum.Crc(append(append(bytes.Clone(f[5:13]), f[1:5]...), f[17:]...)),
		"nothing":           sum.Crc(nil),
		"its bytes turned":  binary.BigEndian.Uint32(f[13:17]),
		"its bits inverted": ^binary.LittleEndian.Uint32(f[13:17]),
	} {
		g := bytes.Clone(f)
		binary.LittleEndian.PutUint32(g[13:17], crc)
		checkTake(t, "a sum over "+what, g, 0, nil, 0)
	}
}

// R4: Frame and Take leave their bytes, spare room too, and answer new memory.
func TestFramesAnswerNewMemory(t *testing.T) {
	all := append(sum.Frame(7, []byte("abcd")), noise(64, 1)...)
	was := bytes.Clone(all)
	calls := map[string]func() []byte{
		"Frame":            func() []byte { return sum.Frame(1, all[:30]) },
		"Frame of nothing": func() []byte { return sum.Frame(1, all[:0]) },
		"Take": func() []byte {
			_, text, _ := sum.Take(all[:40])
			return text
		},
	}
	for name, call := range calls {
		one, two := call(), call()
		want := bytes.Clone(two)
		spoil(one)
		if !bytes.Equal(all, was) {
			t.Fatalf("R4: %s changed what was handed in, or answered its memory", name)
		}
		spoil(all)
		if !bytes.Equal(two, want) {
			t.Errorf("R4: %s: an answer shares memory: %q, want %q", name, two, want)
		}
		copy(all, was)
	}
}

// spoil writes over a list and its spare room.
func spoil(b []byte) {
	for i := range b[:cap(b)] {
		b[:cap(b)][i] = '!'
	}
}

// Take of any bytes tells a frame just where the library's means build the same one.
func FuzzTake(f *testing.F) {
	f.Add(sum.Frame(7, []byte("ab")))
	f.Add(append(sum.Frame(0, nil), sum.Frame(1, []byte("x"))...))
	f.Add([]byte{90})
	f.Fuzz(func(t *testing.T, b []byte) {
		n, text, size := sum.Take(b)
		if size == 0 {
			if n != 0 || len(text) != 0 {
				t.Errorf("R2: no frame, and yet %d, %q", n, text)
			}
			if len(b) >= 17 {
				if k := int(min(binary.LittleEndian.Uint32(b[1:]), 60000)); len(b) >= 17+k {
					if bytes.HasPrefix(b, whole(binary.LittleEndian.Uint64(b[5:]), b[17:17+k])) {
						t.Errorf("P2.1: a frame is not taken: %x", b)
					}
				}
			}
			return
		}
		if size != 17+len(text) || size > len(b) || !bytes.Equal(b[:size], whole(n, text)) {
			t.Errorf("P2.1: taken from %x: %d, %q, %d", b, n, text, size)
		}
	})
}

func Example() {
	b := append(sum.Frame(7, []byte("ab")), sum.Frame(8, []byte("c"))...)
	n, text, size := sum.Take(b)
	fmt.Println(n, string(text), size)
	l, size := sum.All(append(b, "junk"...), 7)
	fmt.Printf("%q %d\n", l, size)
	// Output:
	// 7 ab 19
	// ["ab" "c"] 37
}
