package lex_test

import (
	"math"
	"strings"
	"testing"

	"escapement/api"
	"escapement/lex"
)

// The kinds, as the document numbers them.
const (
	end    = 0
	name   = 1
	kept   = 2
	number = 3
	sign   = 4
)

const (
	signs = "( ) : ; , = + - * / < <= > >= <> ->"
	keeps = "node returns var let tel bool int true false not and or xor mod if then else pre fby when merge"
)

// shown is a text, short enough to be told.
func shown(text string) string {
	return text[:min(len(text), 60)]
}

// checkCut holds Cut's words against those wanted, to which it adds the one at the text's end.
func checkCut(t *testing.T, promise, text string, want ...lex.Word) {
	t.Helper()
	l, f := lex.Cut(text)
	want = append(want, lex.Word{Kind: end, At: len(text)})
	if f != (api.Fault{}) || len(l) != len(want) {
		t.Errorf("%s: Cut(%q): %d words, %v; want %d and no fault", promise, shown(text), len(l), f, len(want))
		return
	}
	for i := range l {
		if l[i] != want[i] {
			t.Errorf("%s: Cut(%q): word %d: %v, want %v", promise, shown(text), i, l[i], want[i])
		}
	}
}

// checkFault holds that Cut answers the fault alone.
func checkFault(t *testing.T, promise, text string, err api.Errno, at int) {
	t.Helper()
	l, f := lex.Cut(text)
	if f != (api.Fault{Err: err, At: at}) || len(l) != 0 {
		t.Errorf("%s: Cut(%q): %d words, %v; want none, %v at %d", promise, shown(text), len(l), f, err, at)
	}
}

// kindOf is the kind of a name.
func kindOf(text string) int {
	if strings.Contains(" "+keeps+" ", " "+text+" ") {
		return kept
	}
	return name
}

// P4.1: what the document shows.
func TestCutExample(t *testing.T) {
	checkCut(t, "P4.1", "x = 1 -> y;",
		lex.Word{Kind: name, Text: "x", At: 0},
		lex.Word{Kind: sign, Text: "=", At: 2},
		lex.Word{Kind: number, Text: "1", N: 1, At: 4},
		lex.Word{Kind: sign, Text: "->", At: 6},
		lex.Word{Kind: name, Text: "y", At: 9},
		lex.Word{Kind: sign, Text: ";", At: 10})
}

// P4.1: a text without words has the one at its end.
func TestCutNoWords(t *testing.T) {
	for _, text := range []string{"", " ", "\t", "\n", "\r", " \t\n\r\n ", "--", "---", "-- x", "-- x\n", "--\n--\n", "\n\n  -- node\r\n"} {
		checkCut(t, "P4.1", text)
	}
}

// P4.1: names of each sort, and of at most 24 bytes.
func TestCutNames(t *testing.T) {
	long := strings.Repeat("n", 24)
	for _, text := range []string{
		"a", "z", "az", "a0", "a9", "a_", "a__", "z_0_9_z", "nodes", "nod", "i", "iff", "xif", "if_", "if0", "pre_", "mergewhen",
		"a00", long, long[:23] + "_", long[:23] + "0", "a" + strings.Repeat("_", 23), "a" + strings.Repeat("9", 23),
	} {
		checkCut(t, "P4.1", text, lex.Word{Kind: name, Text: text})
		checkCut(t, "P4.1", "-- x\n "+text+" ", lex.Word{Kind: name, Text: text, At: 6})
	}
	checkCut(t, "P4.1", long+" "+long, lex.Word{Kind: name, Text: long}, lex.Word{Kind: name, Text: long, At: 25})
}

// P4.1: a name of more bytes is none, and none of its parts is one.
func TestCutLongNames(t *testing.T) {
	for _, n := range []int{25, 26, 48, 49, 255, 256, 257, 280, 16382} {
		for _, text := range []string{
			strings.Repeat("n", n), "n" + strings.Repeat("0", n-1), "n" + strings.Repeat("_", n-1), "if" + strings.Repeat("x", n-2),
		} {
			checkFault(t, "P4.1", text, api.ESYNTAX, 0)
			checkFault(t, "P4.1", " \n"+text, api.ESYNTAX, 2)
			checkFault(t, "P4.1", "1"+text, api.ESYNTAX, 1)
		}
	}
}

// P4.1: numbers, up to 2^63 - 1.
func TestCutNumbers(t *testing.T) {
	for text, n := range map[string]int64{
		"0": 0, "1": 1, "9": 9, "10": 10, "90": 90, "100": 100, "2147483648": 1 << 31, "4294967296": 1 << 32,
		"999999999999999999": 1e18 - 1, "1000000000000000000": 1e18,
		"9223372036854775799": math.MaxInt64 - 8, "9223372036854775806": math.MaxInt64 - 1, "9223372036854775807": math.MaxInt64,
	} {
		checkCut(t, "P4.1", text, lex.Word{Kind: number, Text: text, N: n})
		checkCut(t, "P4.1", "-"+text, lex.Word{Kind: sign, Text: "-"}, lex.Word{Kind: number, Text: text, N: n, At: 1})
		checkCut(t, "P4.1", text+"e", lex.Word{Kind: number, Text: text, N: n}, lex.Word{Kind: name, Text: "e", At: len(text)})
	}
}

// P4.1: a number past 2^63 - 1 is none, also where it would wrap round to a small one.
func TestCutGreatNumbers(t *testing.T) {
	for _, text := range []string{
		"9223372036854775808", "9223372036854775809", "9223372036854775810", "9999999999999999999", "10000000000000000000",
		"18446744073709551615", "18446744073709551616", "18446744073709551617", "36893488147419103233", "340282366920938463463374607431768211457",
		strings.Repeat("9", 16382), "1" + strings.Repeat("0", 16381),
	} {
		checkFault(t, "P4.1", text, api.ESYNTAX, 0)
		checkFault(t, "P4.1", " "+text, api.ESYNTAX, 1)
		checkFault(t, "P4.1", "x-"+text[:min(len(text), 16000)], api.ESYNTAX, 2)
	}
}

// P4.1: a number with a 0 ahead is none, whatever else it is.
func TestCutNoughtsAhead(t *testing.T) {
	for _, text := range []string{"00", "01", "007", "000", "0a0 00", "09223372036854775808", "00000000000000000000000001", "00x"} {
		at := strings.LastIndex(text, " ") + 1
		checkFault(t, "P4.1", text, api.ESYNTAX, at)
		checkFault(t, "P4.1", "1 "+text, api.ESYNTAX, at+2)
	}
	zero := lex.Word{Kind: number, Text: "0"}
	checkCut(t, "P4.1", "0x0", zero, lex.Word{Kind: name, Text: "x0", At: 1})
	checkCut(t, "P4.1", "0-", zero, lex.Word{Kind: sign, Text: "-", At: 1})
	checkCut(t, "P4.1", "100 1", lex.Word{Kind: number, Text: "100", N: 100}, lex.Word{Kind: number, Text: "1", N: 1, At: 4})
}

// P4.1: each sign alone, and each two of them side by side.
func TestCutSigns(t *testing.T) {
	all := strings.Fields(signs)
	for _, one := range all {
		checkCut(t, "P4.1", one, lex.Word{Kind: sign, Text: one})
		checkCut(t, "P4.1", "a"+one+"1", lex.Word{Kind: name, Text: "a"}, lex.Word{Kind: sign, Text: one, At: 1},
			lex.Word{Kind: number, Text: "1", N: 1, At: 1 + len(one)})
		for _, two := range all {
			checkCut(t, "P4.1", one+" "+two, lex.Word{Kind: sign, Text: one}, lex.Word{Kind: sign, Text: two, At: len(one) + 1})
		}
	}
}

// P4.1: the longest sign that fits, and -- ahead of any.
func TestCutLongestSign(t *testing.T) {
	for text, want := range map[string]string{
		"<=": "<=", "<>": "<>", ">=": ">=", "->": "->", "=<": "= <", "=>": "= >", "><": "> <", ">-": "> -", "==": "= =",
		"<<=": "< <=", "<==": "<= =", "<=>": "<= >", "<>=": "<> =", "<<>": "< <>", "<>>": "<> >", ">>=": "> >=",
		"->>": "-> >", "->=": "-> =", "->-": "-> -", "->->": "-> ->", "->--": "->", "-->": "", "---": "", "--": "", "<--": "<",
		"<->": "< ->", "<>--": "<>", "- -": "- -", "-\n-": "- -", "-\r>": "- >", "< =": "< =", "< >": "< >", "> =": "> =", "-": "-",
		"+-": "+ -", "*/": "* /", "/*": "/ *", "//": "/ /", "(-)": "( - )", ":=": ": =", "=--=": "=",
	} {
		l, f := lex.Cut(text)
		var got []string
		for _, w := range l {
			if w.Kind == sign {
				got = append(got, w.Text)
			}
		}
		if f != (api.Fault{}) || strings.Join(got, " ") != want || len(l) != len(got)+1 {
			t.Errorf("P4.1: Cut(%q): %v, %v; want %s", text, l, f, want)
		}
	}
}

// P4.1: what stands between words: blanks, and from -- up to a byte 10, whatever it is.
func TestCutGaps(t *testing.T) {
	x, y := lex.Word{Kind: name, Text: "x"}, lex.Word{Kind: name, Text: "y"}
	for _, gap := range []string{" ", "\t", "\n", "\r", "\r\n", " \t \n \r ", "--\n", "---\n", "-- -- --\n", "--x y\r\n\n", "--\r\n -- é \xff\x00!_#\n\t", "--->\n"} {
		y.At = 1 + len(gap)
		checkCut(t, "P4.1", "x"+gap+"y", x, y)
		checkCut(t, "P4.1", "x"+gap, x)
		checkCut(t, "P4.1", gap, nil...)
	}
	for c := range 256 {
		if c != '\n' {
			checkCut(t, "P4.1", "x--"+string([]byte{byte(c)})+"y", x)
		}
	}
	checkCut(t, "P4.1", "x--\ry", x)
}

// P4.1: each byte, alone and behind a word and between two.
func TestCutEachByte(t *testing.T) {
	const fit = " \t\n\r():;,=+-*/<>0123456789abcdefghijklmnopqrstuvwxyz"
	for c := range 256 {
		b := string([]byte{byte(c)})
		if strings.Contains(fit, b) {
			if l, f := lex.Cut(b); f != (api.Fault{}) || len(l) == 0 {
				t.Errorf("P4.1: Cut(%q): %v, %v", b, l, f)
			}
			continue
		}
		checkFault(t, "P4.1", b, api.ESYNTAX, 0)
		checkFault(t, "P4.1", "x = "+b, api.ESYNTAX, 4)
		checkFault(t, "P4.1", "-- "+b+"\n1"+b+"1", api.ESYNTAX, 6)
		if c != '_' {
			checkFault(t, "P4.1", "ab"+b+"c", api.ESYNTAX, 2)
		}
	}
	checkFault(t, "P4.1", "é", api.ESYNTAX, 0)
	checkFault(t, "P4.1", "aé", api.ESYNTAX, 1)
	checkFault(t, "P4.1", "\u00a0", api.ESYNTAX, 0)
	checkFault(t, "P4.1", "\ufeffx", api.ESYNTAX, 0)
}

// P4.1: of several faults, the first.
func TestCutFirstFault(t *testing.T) {
	long, great := strings.Repeat("n", 25), "9223372036854775808"
	for _, c := range []struct {
		text string
		at   int
	}{
		{"! " + long + " 00 " + great, 0},
		{"x " + long + " ! 00 " + great, 2},
		{"x 00 ! " + long, 2},
		{"x " + great + " !", 2},
		{"-- !\n-- 00\n _ !", 12},
		{"1_", 1},
		{"a$b$", 1},
		{"nA", 1},
		{"An", 0},
	} {
		checkFault(t, "P4.1", c.text, api.ESYNTAX, c.at)
	}
}

// P4.1: a text of MaxText bytes is cut; in one of more only its length is asked.
func TestCutLimit(t *testing.T) {
	if l, f := lex.Cut(strings.Repeat(";", api.MaxText)); f != (api.Fault{}) || len(l) != api.MaxText+1 {
		t.Errorf("P4.1: Cut of %d words: %d, %v", api.MaxText, len(l), f)
	}
	checkCut(t, "P4.1", "x"+strings.Repeat(" ", api.MaxText-1), lex.Word{Kind: name, Text: "x"})
	checkCut(t, "P4.1", strings.Repeat("\n", api.MaxText-1)+"x", lex.Word{Kind: name, Text: "x", At: api.MaxText - 1})
	checkCut(t, "P4.1", strings.Repeat("-", api.MaxText))
	checkFault(t, "P4.1", strings.Repeat(" ", api.MaxText-1)+"!", api.ESYNTAX, api.MaxText-1)
	for _, c := range []string{" ", ";", "!", "x", "0", "9", "-", "\n", "\xff"} {
		for _, n := range []int{api.MaxText + 1, api.MaxText + 2, 2*api.MaxText + 7} {
			checkFault(t, "P4.1", strings.Repeat(c, n), api.ELIMIT, n)
		}
	}
	checkFault(t, "P4.1", "!"+strings.Repeat(" ", api.MaxText), api.ELIMIT, api.MaxText+1)
}

// R4: two answers share no memory, spare room too; R5: nor does a call hang on those ahead.
func TestCutAnswersNewMemory(t *testing.T) {
	const text = "node f(x: int) returns (y: int); let y = x + 41; tel"
	one, _ := lex.Cut(text)
	two, _ := lex.Cut(text)
	room := two[:cap(two)]
	was := append([]lex.Word(nil), room...)
	for i := range one[:cap(one)] {
		one[:cap(one)][i] = lex.Word{Kind: 9, Text: "spoilt", N: 9, At: 9}
	}
	for i := range room {
		if room[i] != was[i] {
			t.Fatalf("R4: the word %d of two answers is one", i)
		}
	}
	three, f := lex.Cut(text)
	for i := range three {
		if f != (api.Fault{}) || len(three) != len(two) || three[i] != two[i] {
			t.Fatalf("R5: Cut hangs on what was done with an answer ahead: %v, %v", three, f)
		}
	}
}
