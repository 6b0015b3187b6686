package sum_test

import (
	"bytes"
	"fmt"
	"hash/crc32"
	"math/rand"
	"testing"

	"escapement/sum"
)

// noise is the same n bytes for the same n and seed.
func noise(n int, seed int64) []byte {
	b := make([]byte, n)
	rand.New(rand.NewSource(seed)).Read(b)
	return b
}

// P2.1: sums that stand in the document, or that are known.
func TestCrcKnown(t *testing.T) {
	for _, c := range []struct {
		text string
		want uint32
	}{
		{"", 0},
		{"123456789", 3421780262},
		{"\x00", 0xd202ef8d},
		{"\xff", 0xff000000},
		{"a", 0xe8b7be43},
		{"abc", 0x352441c2},
		{"\x00\x00\x00\x00", 0x2144df1c},
		{"\xff\xff\xff\xff", 0xffffffff},
		{"The quick brown fox jumps over the lazy dog", 0x414fa339},
	} {
		if got := sum.Crc([]byte(c.text)); got != c.want {
			t.Errorf("P2.1: Crc of %q: %08x, want %08x", c.text, got, c.want)
		}
	}
	if got := sum.Crc(nil); got != 0 {
		t.Errorf("P2.1: Crc of nil: %08x", got)
	}
}

// P2.1: each byte alone, behind others and ahead of them, and long texts.
func TestCrcLikeTheLibrary(t *testing.T) {
	check := func(what string, b []byte) {
		t.Helper()
		if got, want := sum.Crc(b), crc32.ChecksumIEEE(b); got != want {
			t.Errorf("P2.1: Crc of %s: %08x, want %08x", what, got, want)
		}
	}
	for c := range 256 {
		check(fmt.Sprintf("the byte %d", c), []byte{byte(c)})
		check(fmt.Sprintf("the byte %d behind others", c), []byte{'x', 0, byte(c)})
		check(fmt.Sprintf("the byte %d ahead of others", c), []byte{byte(c), 0, 'x'})
	}
	for n := range 100 {
		check(fmt.Sprintf("%d noughts", n), make([]byte, n))
		check(fmt.Sprintf("%d bytes of noise", n), noise(n, int64(n)))
	}
	check("a long text", noise(300001, 5))
}

// R4: Crc leaves its bytes; R5: it hangs on them alone.
func TestCrcLeavesItsArgument(t *testing.T) {
	all := noise(64, 1)
	was := bytes.Clone(all)
	if one, two := sum.Crc(all[:20]), sum.Crc(was[:20:20]); one != two {
		t.Errorf("R5: Crc hangs on more than its bytes: %08x, %08x", one, two)
	}
	if !bytes.Equal(all, was) {
		t.Error("R4: Crc changed what was handed in, or its spare room")
	}
}
