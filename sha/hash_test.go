package sha_test

import (
	"bytes"
	"crypto/sha256"
	"fmt"
	"testing"

	"escapement/sha"
)

// checkSum holds Sum's answer against the library's digest of all that was added.
func checkSum(t *testing.T, what string, h *sha.Hash, all []byte) {
	t.Helper()
	if got, want := h.Sum(), sha256.Sum256(all); got != want {
		t.Fatalf("P3.1: Sum %s: %x, want %x", what, got, want)
	}
}

// P3.1: nothing was added, or nothing but nothing.
func TestSumOfNothing(t *testing.T) {
	h := sha.New()
	checkSum(t, "of a new Hash", h, nil)
	h.Add(nil)
	h.Add([]byte{})
	checkSum(t, "behind nothing added", h, nil)
	h.Add([]byte("abc"))
	h.Add(nil)
	checkSum(t, "with nothing behind", h, []byte("abc"))
}

// P3.1: it is the same wherever the bytes are parted, in two and in three.
func TestSumOfParts(t *testing.T) {
	for _, size := range []int{1, 55, 56, 57, 63, 64, 65, 127, 128, 129, 200} {
		b := noise(size, int64(size))
		for one := range size + 1 {
			for two := one; two <= size; two += 1 + size/40 {
				h := sha.New()
				h.Add(b[:one])
				h.Add(b[one:two])
				h.Add(b[two:])
				checkSum(t, fmt.Sprintf("of %d bytes, parted at %d and %d", size, one, two), h, b)
			}
		}
	}
}

// P3.1: Sum asked again is the same, and more may be added behind it: each beginning's digest.
func TestSumAskedAgain(t *testing.T) {
	b := noise(1000, 4)
	for _, step := range []int{1, 3, 8, 55, 56, 63, 64, 65, 100, 128, 500} {
		h := sha.New()
		for at := 0; at < len(b); at += step {
			end := min(at+step, len(b))
			h.Add(b[at:end])
			what := fmt.Sprintf("of %d bytes by %d", end, step)
			checkSum(t, what, h, b[:end])
			checkSum(t, what+", asked again", h, b[:end])
		}
	}
}

// P3.1: a Hash that is asked at each step and one that is asked at the end tell the same.
func TestSumAskedOrNot(t *testing.T) {
	part := []byte("some bytes, 27 of them here")
	asked, quiet := sha.New(), sha.New()
	for range 100 {
		asked.Add(part)
		quiet.Add(part)
		asked.Sum()
	}
	checkSum(t, "of one that was asked", asked, bytes.Repeat(part, 100))
	checkSum(t, "of one that was not", quiet, bytes.Repeat(part, 100))
}

// R5: what a Hash tells hangs on what it was told alone, not on others.
func TestHashesAreApart(t *testing.T) {
	var l []*sha.Hash
	var all [][]byte
	for range 5 {
		l, all = append(l, sha.New()), append(all, nil)
	}
	for step := range 200 {
		i := step * step % 5
		part := noise(step%90, int64(step))
		l[i].Add(part)
		all[i] = append(all[i], part...)
		sha.Of(part)
	}
	for i, h := range l {
		checkSum(t, fmt.Sprintf("of Hash %d among others", i), h, all[i])
	}
}

// R4: Add leaves its bytes, spare room too, and does not keep them; what Sum answers is new.
func TestHashKeepsNothing(t *testing.T) {
	for _, size := range []int{1, 40, 63, 64, 65, 100, 130} {
		all := noise(200, 5)
		was := bytes.Clone(all)
		h := sha.New()
		h.Add(all[:size])
		first := h.Sum()
		if !bytes.Equal(all, was) {
			t.Fatalf("R4: Add of %d bytes changed what was handed in, or its spare room", size)
		}
		clear(all)
		checkSum(t, "though the list was changed behind Add", h, was[:size])
		clear(first[:])
		checkSum(t, "though an answer was changed", h, was[:size])
		h.Add(was[size:])
		checkSum(t, "of more behind", h, was)
	}
}

// What is added in any parts, with Sum asked between, has the library's digest.
func FuzzHash(f *testing.F) {
	f.Add([]byte("abc"), uint8(1))
	f.Add(make([]byte, 130), uint8(64))
	f.Add([]byte{}, uint8(0))
	f.Fuzz(func(t *testing.T, b []byte, step uint8) {
		h := sha.New()
		for at := 0; at < len(b); at += int(step) + 1 {
			end := min(at+int(step)+1, len(b))
			h.Add(b[at:end])
			checkSum(t, "in parts", h, b[:end])
		}
		if sha.Of(b) != h.Sum() {
			t.Errorf("P3.1: Of and Sum differ for %x", b)
		}
	})
}

func Example() {
	fmt.Println(sha.Hex(sha.Of([]byte("abc"))))
	h := sha.New()
	h.Add([]byte("a"))
	h.Add([]byte("bc"))
	fmt.Println(h.Sum() == sha.Of([]byte("abc")))
	h.Add([]byte("d"))
	fmt.Println(h.Sum() == sha.Of([]byte("abcd")))
	// Output:
	// ba7816bf8f01cfea414140de5dae2223b00361a396177a9cb410ff61f20015ad
	// true
	// true
}
