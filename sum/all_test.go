package sum_test

import (
	"bytes"
	"math"
	"testing"

	"escapement/sum"
)

// row is frames one right behind the other, each with a number and a text.
func row(parts ...any) []byte {
	var b []byte
	for i := 0; i < len(parts); i += 2 {
		b = append(b, sum.Frame(parts[i].(uint64), []byte(parts[i+1].(string)))...)
	}
	return b
}

// turned is b with its byte at i turned.
func turned(b []byte, i int) []byte {
	b = bytes.Clone(b)
	b[i] ^= 128
	return b
}

// checkAll holds All's answer against what it ought to be.
func checkAll(t *testing.T, what string, b []byte, first uint64, texts []string) {
	t.Helper()
	l, size := sum.All(b, first)
	want := 17 * len(texts)
	same := len(l) == len(texts)
	for i, text := range texts {
		want += len(text)
		same = same && string(l[i]) == text
	}
	if !same || size != want {
		t.Errorf("P2.1: All of %s from %d on: %q, %d; want %q, %d", what, first, l, size, texts, want)
	}
}

// P2.1: frames with numbers one behind the other, up to where none such stands.
func TestAllInOrder(t *testing.T) {
	const u3, u4, u5, u6 = uint64(3), uint64(4), uint64(5), uint64(6)
	three := row(u3, "a", u4, "", u5, "bcd")
	all := []string{"a", "", "bcd"}
	for _, c := range []struct {
		what  string
		b     []byte
		first uint64
		want  []string
	}{
		{"three", three, 3, all},
		{"one", row(u3, "a"), 3, []string{"a"}},
		{"an empty one", row(u3, ""), 3, []string{""}},
		{"nothing", nil, 3, nil},
		{"nothing", []byte{}, 0, nil},
		{"a first below", three, 2, nil},
		{"a first past it", three, 4, nil},
		{"a first at the end", three, math.MaxUint64, nil},
		{"a gap", row(u3, "a", u5, "b", u6, "c"), 3, []string{"a"}},
		{"one twice", row(u3, "a", u3, "b", u4, "c"), 3, []string{"a"}},
		{"one back", row(u4, "a", u3, "b", u5, "c"), 4, []string{"a"}},
		{"junk behind", append(bytes.Clone(three), "junk"...), 3, all},
		{"noughts behind", append(bytes.Clone(three), make([]byte, 100)...), 3, all},
		{"a byte ahead", append([]byte{0}, three...), 3, nil},
		{"a byte between", append(append(row(u3, "a"), 0), row(u4, "b")...), 3, []string{"a"}},
		{"a cut one behind", three[:len(three)-1], 3, all[:2]},
		{"a turned one first", turned(three, 17), 3, nil},
		{"a turned one between", turned(three, 18+5), 3, all[:1]},
		{"a turned one at the end", turned(three, len(three)-1), 3, all[:2]},
		{"one that would be too great", append(bytes.Clone(three), forged(90, 60001, 6, make([]byte, 60001))...), 3, all},
	} {
		checkAll(t, c.what, c.b, c.first, c.want)
	}
}

// P2.1: at 2^64 - 1 it ends, with the frame of that number.
func TestAllAtTheGreatestNumber(t *testing.T) {
	const last = uint64(math.MaxUint64)
	b := row(last-1, "a", last, "b", uint64(0), "c", uint64(1), "d")
	checkAll(t, "the last two", b, last-1, []string{"a", "b"})
	checkAll(t, "the last", b[18:], last, []string{"b"})
	checkAll(t, "those from 0 on", b[36:], 0, []string{"c", "d"})
	checkAll(t, "the last twice", row(last, "a", last, "b"), last, []string{"a"})
	checkAll(t, "the last two, asked from 0 on", b, 0, nil)
}

// P2.1: each beginning of a row has the frames that are whole in it.
func TestAllOfEachBeginning(t *testing.T) {
	var b []byte
	var texts []string
	ends := []int{0}
	for n := range 8 {
		text := noise(n*n, int64(n))
		b = append(b, sum.Frame(uint64(250+n), text)...)
		texts, ends = append(texts, string(text)), append(ends, len(b))
	}
	whole := 0
	for cut := range len(b) + 1 {
		if whole+1 < len(ends) && ends[whole+1] == cut {
			whole++
		}
		checkAll(t, "a beginning", b[:cut], 250, texts[:whole])
	}
}

// P2.1: many frames, and great ones.
func TestAllOfMany(t *testing.T) {
	var b []byte
	var texts []string
	for n := range uint64(3000) {
		b, texts = append(b, sum.Frame(n, []byte{byte(n)})...), append(texts, string([]byte{byte(n)}))
	}
	great := string(noise(60000, 7))
	for n := range uint64(3) {
		b, texts = append(b, sum.Frame(3000+n, []byte(great))...), append(texts, great)
	}
	l, size := sum.All(b, 0)
	if len(l) != len(texts) || size != len(b) {
		t.Fatalf("P2.1: All of many: %d, %d; want %d, %d", len(l), size, len(texts), len(b))
	}
	for i, text := range texts {
		if string(l[i]) != text {
			t.Fatalf("P2.1: All of many: the text %d is wrong", i)
		}
	}
}

// R4: All leaves its bytes, and no two of its texts share memory with them or with one another.
func TestAllAnswersNewMemory(t *testing.T) {
	all := append(row(uint64(0), "abc", uint64(1), "defg", uint64(2), ""), noise(64, 1)...)
	was := bytes.Clone(all)
	for spoilt := range 3 {
		l, _ := sum.All(all[:60], 0)
		spoil(l[spoilt])
		if !bytes.Equal(all, was) {
			t.Fatal("R4: All changed what was handed in, or answered its memory")
		}
		for i, want := range []string{"abc", "defg", ""} {
			if i != spoilt && string(l[i]) != want {
				t.Errorf("R4: the texts %d and %d share memory", spoilt, i)
			}
		}
	}
	l, _ := sum.All(all[:60], 0)
	spoil(all)
	if string(bytes.Join(l, []byte("|"))) != "abc|defg|" {
		t.Errorf("R4: All answered memory that was handed in: %q", l)
	}
}
