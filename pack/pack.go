// Package pack: numbers and texts in bytes: see DOC.md, chapter 1.
package pack

// maxSize is how many bytes the greatest number has: 64 bits, seven in a byte.
const maxSize = 10

// U writes a number.
func U(b []byte, u uint64) []byte {
	return appendNumber(copyWithRoom(b, maxSize), u)
}

// I writes one with a sign.
func I(b []byte, v int64) []byte {
	return U(b, fold(v))
}

// S writes a text.
func S(b []byte, s string) []byte {
	l := copyWithRoom(b, maxSize+len(s))
	return append(appendNumber(l, uint64(len(s))), s...)
}

// Reader reads numbers and texts, one behind the other.
type Reader struct {
	left []byte
	bad  bool
}

// Read makes one.
func Read(b []byte) *Reader {
	return &Reader{left: copyWithRoom(b, 0)}
}

// U reads a number.
func (r *Reader) U() uint64 {
	u, size := firstNumber(r.left)
	if size == 0 {
		r.fail()
		return 0
	}
	r.left = r.left[size:]
	return u
}

// I reads one with a sign.
func (r *Reader) I() int64 {
	return unfold(r.U())
}

// S reads a text.
func (r *Reader) S() string {
	n := r.U()
	// Held against each other as uint64: an int could not hold every length that may stand there.
	if n > uint64(len(r.left)) {
		r.fail()
		return ""
	}
	s := string(r.left[:n])
	r.left = r.left[n:]
	return s
}

// Left tells how many bytes are left.
func (r *Reader) Left() int { return len(r.left) }

// Bad tells whether something could not be read.
func (r *Reader) Bad() bool { return r.bad }

// fail drops what is left: nothing can be read from no bytes, so the Reader stays bad.
func (r *Reader) fail() {
	r.left, r.bad = nil, true
}

// copyWithRoom copies b, because an answer shares no memory, spare room included, with what was handed in.
func copyWithRoom(b []byte, room int) []byte {
	l := make([]byte, len(b), len(b)+room)
	copy(l, b)
	return l
}

// appendNumber writes u behind b, into b's room.
func appendNumber(b []byte, u uint64) []byte {
	for u >= 128 {
		b = append(b, byte(u)|128)
		u >>= 7
	}
	return append(b, byte(u))
}

// firstNumber reads the number that b begins with, and how many bytes it has: 0 if there is none.
func firstNumber(b []byte) (u uint64, size int) {
	for i, c := range b {
		bits := uint64(c&127) << (7 * i)
		switch {
		case i == maxSize-1 && c > 1: // would go past 64 bits, or past ten bytes
			return 0, 0
		case c >= 128:
			u |= bits
		case c == 0 && i > 0: // U would have ended a byte ahead
			return 0, 0
		default:
			return u | bits, i + 1
		}
	}
	return 0, 0
}

// fold turns numbers near 0, below it too, into small ones without a sign.
func fold(v int64) uint64 {
	return uint64(v)<<1 ^ uint64(v>>63)
}

// unfold is the way back.
func unfold(u uint64) int64 {
	return int64(u>>1) ^ -int64(u&1)
}
