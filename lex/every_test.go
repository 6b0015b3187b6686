package lex_test

import (
	"math/big"
	"math/rand"
	"regexp"
	"strings"
	"testing"
	"unsafe"

	"escapement/api"
	"escapement/lex"
)

// The words and what stands between, written another way than lex has them.
var (
	gapForm    = regexp.MustCompile(`\A(?:[ \t\n\r]|--[^\n]*)*`)
	nameForm   = regexp.MustCompile(`\A[a-z][a-z0-9_]*`)
	numberForm = regexp.MustCompile(`\A[0-9]+`)
	signForm   = regexp.MustCompile(`\A(?:<=|>=|<>|->|[():;,=+*/<>-])`)
)

// slowCut does what Cut ought to, for texts of at most MaxText bytes: ok is false, and at tells where, at a fault.
func slowCut(text string) (l []lex.Word, at int, ok bool) {
	for at = len(gapForm.FindString(text)); at < len(text); at += len(gapForm.FindString(text[at:])) {
		w := lex.Word{At: at}
		if s := nameForm.FindString(text[at:]); s != "" && len(s) <= 24 {
			w.Kind, w.Text = kindOf(s), s
		} else if s := numberForm.FindString(text[at:]); s != "" && (s == "0" || s[0] != '0') {
			if n, _ := new(big.Int).SetString(s, 10); n.IsInt64() {
				w.Kind, w.Text, w.N = number, s, n.Int64()
			}
		} else if s := signForm.FindString(text[at:]); s != "" {
			w.Kind, w.Text = sign, s
		}
		if w.Kind == end {
			return nil, at, false
		}
		l, at = append(l, w), at+len(w.Text)
	}
	return l, at, true
}

// checkSlow holds Cut against slowCut.
func checkSlow(t *testing.T, text string) {
	t.Helper()
	if want, at, ok := slowCut(text); ok {
		checkCut(t, "P4.1", text, want...)
	} else {
		checkFault(t, "P4.1", text, api.ESYNTAX, at)
	}
}

// P4.1: all texts of a few bytes, of one byte of each sort.
func TestCutEveryShortText(t *testing.T) {
	const sorts = "if09_<=>-+ \n!"
	texts := []string{""}
	for range 4 {
		var longer []string
		for _, text := range texts {
			checkSlow(t, text)
			for _, c := range sorts {
				longer = append(longer, text+string(c))
			}
		}
		texts = longer
	}
	for _, text := range texts {
		checkSlow(t, text)
	}
}

// P4.1: words and what is none, in any order, with and without something between.
func TestCutLikeSlowCut(t *testing.T) {
	r := rand.New(rand.NewSource(4))
	parts := append(strings.Fields(signs+" "+keeps), " ", " ", "\n", "\t", "\r", "--", "-- \n", "x", "x_1", "0", "7", "12", "9223372036854775807",
		"9223372036854775808", strings.Repeat("v", 24), "00", "_", "!", "A", "\x00", "é")
	for range 20000 {
		if t.Failed() {
			return
		}
		var text strings.Builder
		for range r.Intn(12) {
			text.WriteString(parts[r.Intn(len(parts))])
		}
		checkSlow(t, text.String())
	}
}

// P4.1: words, wherever they stand: the same ones, whatever stands between.
func TestCutWordsWhereverTheyStand(t *testing.T) {
	r := rand.New(rand.NewSource(5))
	words := strings.Fields(signs + " " + keeps + " x y1 a_b " + strings.Repeat("w", 24) + " if1 0 1 42 9223372036854775807")
	// Each begins with a blank: a sign - and a remark right behind it would be one remark.
	gaps := []string{" ", "\n", "\t", "\r", "\r\n", "  ", " --\n", " -- if x = 00 then !\n", "\n---\n\n"}
	for range 3000 {
		if t.Failed() {
			return
		}
		text := ""
		var want []lex.Word
		for range r.Intn(40) {
			text += gaps[r.Intn(len(gaps))]
			w, _ := lex.Cut(words[r.Intn(len(words))])
			w[0].At = len(text)
			want = append(want, w[0])
			text += w[0].Text
		}
		text += gaps[r.Intn(len(gaps))]
		checkCut(t, "P4.1", text, want...)
	}
}

// R4: the texts of words are new memory: a word that is kept does not keep the text that it was cut from.
func TestCutTextsAreNewMemory(t *testing.T) {
	text := strings.Clone("node abc -> 1234 <= ;")
	first := uintptr(unsafe.Pointer(unsafe.StringData(text)))
	l, _ := lex.Cut(text)
	for _, w := range l[:len(l)-1] {
		if at := uintptr(unsafe.Pointer(unsafe.StringData(w.Text))); at >= first && at < first+uintptr(len(text)) {
			t.Errorf("R4: the word %s is in the text's memory", w.Text)
		}
	}
}

// P4.1, R1: any bytes.
func FuzzCut(f *testing.F) {
	for _, text := range []string{"", "x = 1 -> y;", "node f() returns (y: int); let y = 0 fby y; tel", "--\n00", "<=<>>=->", "9223372036854775808", "\xff"} {
		f.Add(text)
	}
	f.Fuzz(func(t *testing.T, text string) {
		if len(text) > api.MaxText {
			checkFault(t, "P4.1", text, api.ELIMIT, len(text))
			return
		}
		checkSlow(t, text)
	})
}
