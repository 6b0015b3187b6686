package sha_test

import (
	"bytes"
	"crypto/sha256"
	"fmt"
	"math/rand"
	"strings"
	"testing"

	"escapement/sha"
)

// noise is the same n bytes for the same n and seed.
func noise(n int, seed int64) []byte {
	b := make([]byte, n)
	rand.New(rand.NewSource(seed)).Read(b)
	return b
}

// P3.1: digests that stand in the document, in FIPS 180 or that are known.
func TestOfKnown(t *testing.T) {
	for _, c := range []struct{ text, want string }{
		{"abc", "ba7816bf8f01cfea414140de5dae2223b00361a396177a9cb410ff61f20015ad"},
		{"", "e3b0c44298fc1c149afbf4c8996fb92427ae41e4649b934ca495991b7852b855"},
		{"abcdbcdecdefdefgefghfghighijhijkijkljklmklmnlmnomnopnopq",
			"248d6a61d20638b8e5c026930c3e6039a33ce45964ff2167f6ecedd419db06c1"},
		{"abcdefghbcdefghicdefghijdefghijkefghijklfghijklmghijklmnhijklmnoijklmnopjklmnopqklmnopqrlmnopqrsmnopqrstnopqrstu",
			"cf5b16a778af8380036ce59e7b0492370b249b11e8f07a51afac45037afee9d1"},
		{strings.Repeat("a", 1000000), "cdc76e5c9914fb9281a1c7e284d73e67f1809a48a497200e046d39ccc7112cd0"},
		{"\xbd", "68325720aabd7c82f30f554b313d0570c95accbb7dc4b5aae11204c08ffe732b"},
		{"\xc9\x8c\x8e\x55", "7abc22c0ae5af26ce93dbb94433a0e0b2e119d014f8e7f65bd56c61ccccd9504"},
		{"The quick brown fox jumps over the lazy dog", "d7a8fbb307d7809469ca9abcb0082e4f8d5651e46d3cdb762d02d0bf37c9e592"},
	} {
		if got := sha.Hex(sha.Of([]byte(c.text))); got != c.want {
			t.Errorf("P3.1: Of(%.30q): %s, want %s", c.text, got, c.want)
		}
	}
	if sha.Of(nil) != sha.Of([]byte{}) {
		t.Error("R4: Of nil and of an empty list are two")
	}
}

// checkOf holds Of's answer against the library's.
func checkOf(t *testing.T, what string, b []byte) {
	t.Helper()
	if got, want := sha.Of(b), sha256.Sum256(b); got != want {
		t.Errorf("P3.1: Of %s: %x, want %x", what, got, want)
	}
}

// P3.1: each size up to some blocks, with all kinds of bytes, and great sizes.
func TestOfLikeTheLibrary(t *testing.T) {
	for n := range 400 {
		checkOf(t, fmt.Sprintf("%d noughts", n), make([]byte, n))
		checkOf(t, fmt.Sprintf("%d ones", n), bytes.Repeat([]byte{255}, n))
		checkOf(t, fmt.Sprintf("%d marks", n), bytes.Repeat([]byte{128}, n))
		checkOf(t, fmt.Sprintf("%d bytes of noise", n), noise(n, int64(n)))
	}
	for _, n := range []int{8191, 8192, 8193, 1<<16 - 9, 1<<16 - 8, 1 << 16, 1<<21 - 1, 1 << 21, 1<<21 + 1} {
		checkOf(t, fmt.Sprintf("%d bytes of noise", n), noise(n, int64(n)))
	}
}

// P3.1: each bit of some blocks is in the digest.
func TestOfEachBit(t *testing.T) {
	b := noise(130, 1)
	for bit := range 8 * len(b) {
		b[bit/8] ^= 1 << (bit % 8)
		checkOf(t, fmt.Sprintf("noise with the bit %d turned", bit), b)
		b[bit/8] ^= 1 << (bit % 8)
	}
}

// P3.1: the count of bits, where it no longer fits 32 of them.
func TestSumOfVeryMany(t *testing.T) {
	if testing.Short() {
		t.Skip("half a GiB is summed")
	}
	t.Parallel()
	part := noise(1<<20, 3)
	mine, library := sha.New(), sha256.New()
	for range 1 << 9 {
		mine.Add(part)
		library.Write(part)
	}
	check := func(what string) {
		t.Helper()
		if got, want := mine.Sum(), library.Sum(nil); !bytes.Equal(got[:], want) {
			t.Errorf("P3.1: Sum of %s: %x, want %x", what, got, want)
		}
	}
	check("2^29 bytes")
	mine.Add(part[:100])
	library.Write(part[:100])
	check("2^29 + 100 bytes")
}

// R4: Of leaves its bytes, spare room too; R5: it hangs on them alone.
func TestOfLeavesItsArgument(t *testing.T) {
	all := noise(300, 2)
	was := bytes.Clone(all)
	for n := range 200 {
		if one, two := sha.Of(all[:n]), sha.Of(was[:n:n]); one != two {
			t.Fatalf("R5: Of %d bytes hangs on more than its bytes: %x, %x", n, one, two)
		}
		if !bytes.Equal(all, was) {
			t.Fatalf("R4: Of %d bytes changed what was handed in, or its spare room", n)
		}
	}
}

// P3.1: 64 digits, small letters, the first byte first.
func TestHex(t *testing.T) {
	var rising, falling [32]byte
	for i := range rising {
		rising[i], falling[i] = byte(i), byte(255-i)
	}
	for _, c := range []struct {
		d    [32]byte
		want string
	}{
		{[32]byte{}, strings.Repeat("0", 64)},
		{[32]byte{0: 0xab}, "ab" + strings.Repeat("0", 62)},
		{[32]byte{31: 0x0c}, strings.Repeat("0", 63) + "c"},
		{rising, "000102030405060708090a0b0c0d0e0f101112131415161718191a1b1c1d1e1f"},
		{falling, "fffefdfcfbfaf9f8f7f6f5f4f3f2f1f0efeeedecebeae9e8e7e6e5e4e3e2e1e0"},
	} {
		if got := sha.Hex(c.d); got != c.want {
			t.Errorf("P3.1: Hex(%v): %s, want %s", c.d, got, c.want)
		}
	}
	for c := range 256 {
		d := [32]byte{byte(c), 15: byte(255 - c), 31: byte(c)}
		if got, want := sha.Hex(d), fmt.Sprintf("%x", d); got != want {
			t.Errorf("P3.1: Hex(%v): %s, want %s", d, got, want)
		}
	}
}
