package mean_test

import (
	"math"
	"strconv"
	"strings"
	"testing"

	"escapement/api"
	"escapement/front"
	"escapement/mean"
	"escapement/syn"
)

// rows reads rows as they are written here: values, and a ; between rows.
func rows(s string) []api.Row {
	var l []api.Row
	for _, row := range strings.Split(s, ";") {
		r := api.Row{}
		for _, word := range strings.Fields(row) {
			n, err := strconv.ParseInt(word, 10, 64)
			if err != nil {
				panic("no number: " + word)
			}
			r = append(r, n)
		}
		l = append(l, r)
	}
	return l
}

// written is the other way round.
func written(l []api.Row) string {
	var b strings.Builder
	for i, r := range l {
		if i > 0 {
			b.WriteString(";")
		}
		for k, n := range r {
			if k > 0 {
				b.WriteString(" ")
			}
			b.WriteString(strconv.FormatInt(n, 10))
		}
	}
	return b.String()
}

// program reads a text that has no fault.
func program(t *testing.T, text string) []syn.Node {
	t.Helper()
	l, f := front.Check(text)
	if f.Err != api.OK {
		t.Fatalf("P12.1: %q is no program: %v at %d", text, f.Err, f.At)
	}
	return l
}

// hold holds what a program means, told by Run and by Text, and so of each beginning of its inputs.
func hold(t *testing.T, text, in, want string) {
	t.Helper()
	l, all := program(t, text), rows(in)
	answers := strings.Split(want, ";")
	if len(answers) != len(all) {
		t.Fatalf("P12.1: %q: %d rows are wanted of %d", text, len(answers), len(all))
	}
	for k := range len(all) + 1 {
		begun := strings.Join(answers[:k], ";")
		if out, e := mean.Run(l, all[:k]); e != api.OK || written(out) != begun || len(out) != k {
			t.Errorf("P12.1: Run(%q) of %q: %v, %q, want %q", text, written(all[:k]), e, written(out), begun)
		}
		if out, f := mean.Text(text, all[:k]); f != (api.Fault{}) || written(out) != begun || len(out) != k {
			t.Errorf("P12.1: Text(%q) of %q: %v at %d, %q, want %q", text, written(all[:k]), f.Err, f.At, written(out), begun)
		}
	}
}

// one is a program of one equation.
func one(e string) string {
	return "node f(x: int; c: bool) returns (y: int); let y = " + e + "; tel"
}

// many is one of several.
func many(decls, eqs string) string {
	return "node f(x: int; c, d: bool) returns (y: int); var " + decls + " let " + eqs + " tel"
}

// meaning is an expression of x and c, and what it means.
type meaning struct{ e, in, want string }

func holdAll(t *testing.T, ahead string, l []meaning) {
	t.Helper()
	for _, m := range l {
		hold(t, ahead+one(m.e), m.in, m.want)
	}
}

// P12.1: what the document shows.
func TestExamples(t *testing.T) {
	ahead := "node f(x: int) returns (y: int); let y = "
	hold(t, ahead+"0 -> pre x; tel", "5;6;7", "0;5;6")
	hold(t, ahead+"x + 1; tel\n", "5;6", "6;7")
	hold(t, "node f(x: int) returns (s: int); let s = x + (0 fby s); tel\n", "5;6;7", "5;11;18")
	hold(t, "node f(c: bool; x: int) returns (y: int); let y = merge c (x when c) (0 - 1); tel\n", "1 5;0 6", "5;-1")
}

// P12.1: a row for each tick, of all outputs, in the order in which they are declared; equations in any order; locals, and
// what no output asks for, are not told.
func TestRows(t *testing.T) {
	hold(t, "node f(a, b: int; c: bool) returns (p: bool; q, r: int); let r = a; q = b; p = c; tel", "1 2 0;3 4 1", "0 2 1;1 4 3")
	hold(t, "node f() returns (y: int); let y = 7; tel", ";;", "7;7;7")
	hold(t, "node f() returns (z, y, x: int); let y = 0 fby (y + 1); x = y * 2; z = 5; tel", ";;", "5 0 0;5 1 2;5 2 4")
	hold(t, "node f(x: int) returns (y: int); var a, b: int; let y = x; a = x / 0; b = pre a; tel", "3;4", "3;4")
	hold(t, "node f(x: int) returns (y: int); var a, b, d: int; let y = a; a = b + 1; b = d * 2; d = x; tel", "3;4", "7;9")
	hold(t, "node f(x: int) returns (y: int); var a, b, d: int; let d = x; b = d * 2; a = b + 1; y = a; tel", "3;4", "7;9")
	hold(t, "node f(x: int) returns (y, z: int); let z = y + 1; y = x; tel", "3;-4", "3 4;-4 -3")
	hold(t, "node g(x: int) returns (y: int); let y = x + 1; tel node f(x: int) returns (y: int); let y = x; tel", "3;4", "3;4")
	hold(t, "node g(x: int) returns (y, z: int); let y = x; z = 2; tel node f(x: int; c: bool) returns (y: int); let y = if c then x else 0; tel", "3 1;4 0", "3;0")
}

// P12.1: an int, a bool: itself.
func TestValues(t *testing.T) {
	holdAll(t, "", []meaning{
		{"0", "5 0", "0"}, {"17", "5 0;6 1", "17;17"}, {"9223372036854775807", "5 0", "9223372036854775807"}, {"- 9223372036854775807 - 1", "5 0", "-9223372036854775808"},
		{"x", "-9223372036854775808 0;9223372036854775807 0", "-9223372036854775808;9223372036854775807"},
	})
	hold(t, "node f(c: bool) returns (a, b, d: bool); let a = true; b = false; d = c; tel", "0;1", "1 0 0;1 0 1")
}

// edges are ints at which something happens.
var edges = []int64{math.MinInt64, math.MinInt64 + 1, -4294967296, -3037000500, -7, -3, -2, -1, 0, 1, 2, 3, 7, 3037000500, 4294967296, math.MaxInt64 - 1, math.MaxInt64}

// P12.1: operators on ints at all edges, against numbers of any size.
func TestOperators(t *testing.T) {
	kinds := map[string]string{"+": "int", "-": "int", "*": "int", "/": "int", "mod": "int", "=": "bool", "<>": "bool", "<": "bool", "<=": "bool", ">": "bool", ">=": "bool"}
	for op, kind := range kinds {
		var in, want []api.Row
		for _, a := range edges {
			for _, b := range edges {
				in, want = append(in, api.Row{a, b}), append(want, api.Row{slowOf(op, a, b)})
			}
		}
		out, f := mean.Text("node f(a, b: int) returns (y: "+kind+"); let y = a "+op+" b; tel", in)
		for k := range want {
			if f != (api.Fault{}) || len(out) != len(want) || written(out[k:k+1]) != written(want[k:k+1]) {
				t.Fatalf("P12.1: %s of %v: %v, %v, want %v", op, in[k], f.Err, written(out), want[k])
			}
		}
	}
}

// P12.1: ints wrap round at 64 bits; / goes toward nought, mod has its first kid's sign; by 0 both are 0.
func TestArithmetic(t *testing.T) {
	holdAll(t, "", []meaning{
		{"x + 1", "9223372036854775807 0;-1 0", "-9223372036854775808;0"}, {"x - 1", "-9223372036854775808 0;1 0", "9223372036854775807;0"}, {"2 - x", "7 0;-7 0", "-5;9"},
		{"x * 2", "4611686018427387904 0;9223372036854775807 0;-3 0", "-9223372036854775808;-2;-6"}, {"x * x", "4294967296 0;3037000500 0", "0;-9223372036709301616"},
		{"x / 2", "7 0;-7 0;1 0;-1 0", "3;-3;0;0"}, {"x / (- 2)", "7 0;-7 0;1 0;-1 0", "-3;3;0;0"}, {"x / (- 1)", "-9223372036854775808 0;5 0", "-9223372036854775808;-5"},
		{"x mod 3", "7 0;-7 0;-3 0;2 0;-2 0", "1;-1;0;2;-2"}, {"x mod (- 3)", "7 0;-7 0;-3 0;2 0;-2 0", "1;-1;0;2;-2"}, {"x mod (- 1)", "-9223372036854775808 0;5 0", "0;0"},
		{"x / 0", "5 0;-5 0;0 0;-9223372036854775808 0", "0;0;0;0"}, {"x mod 0", "5 0;-5 0;0 0;-9223372036854775808 0", "0;0;0;0"}, {"1 + 6 / x", "0 0;4 0", "1;2"}, {"7 mod x", "0 0;4 0", "0;3"},
		{"- x", "5 0;-5 0;0 0;-9223372036854775808 0;9223372036854775807 0", "-5;5;0;-9223372036854775808;-9223372036854775807"}, {"- - x", "5 0;-5 0", "5;-5"},
		{"x - 1 - 2", "10 0", "7"}, {"x - (1 - 2)", "10 0", "11"}, {"x / 2 / 2", "9 0", "2"}, {"x + 2 * 3", "1 0", "7"},
	})
}

// P12.1: bools are 0 and 1.
func TestBools(t *testing.T) {
	for e, want := range map[string]string{
		"a and b": "0;0;0;1", "a or b": "0;1;1;1", "a xor b": "0;1;1;0", "a = b": "1;0;0;1", "a <> b": "0;1;1;0", "not a": "1;1;0;0", "not b": "1;0;1;0", "not not a": "0;0;1;1",
		"not (a and b)": "1;1;1;0", "a and not b": "0;0;1;0", "true": "1;1;1;1", "false": "0;0;0;0", "a xor true": "1;1;0;0", "if a then b else not b": "1;0;0;1", "a -> b": "0;1;0;1", "b -> a": "0;0;1;1",
	} {
		hold(t, "node f(a, b: bool) returns (y: bool); let y = "+e+"; tel", "0 0;0 1;1 0;1 1", want)
	}
}

// P12.1: an if by its first kid; both others are worked out all the same, so that what they keep goes on.
func TestIf(t *testing.T) {
	holdAll(t, "", []meaning{
		{"if c then x else - x", "5 1;6 0", "5;-6"}, {"if x > 5 then 1 else 0", "5 1;6 0", "0;1"}, {"if c then if x > 5 then 1 else 2 else 3", "5 1;6 1;6 0", "2;1;3"},
		{"if c then 0 fby x else 100 fby x", "1 1;2 0;3 1;4 0", "0;1;2;3"}, {"if c then 1 -> 2 else 3 -> 4", "0 0;0 1;0 0", "3;2;4"}, {"if c then (0 -> pre x) else - x", "1 0;2 1;3 0;4 1", "-1;1;-3;3"},
		{"if (false fby c) then 1 else 2", "0 1;0 0;0 1", "2;1;2"},
	})
	holdAll(t, "node up(a: int) returns (s: int); let s = a + (0 fby s); tel ", []meaning{
		{"if c then up(1) else up(10)", "0 1;0 0;0 1;0 0", "1;20;3;40"}, {"if up(1) = 2 then x else 0", "5 0;6 0;7 0", "0;6;0"},
	})
	hold(t, "node f(c: bool) returns (y: int; s: bool); var n: int; let n = 0 fby (n + 1); s = c and (n > 1); y = if s or (0 fby y) > 2 then n else (1 fby (y + 1)); tel", "0;0;1;1;0", "1 0;2 0;2 1;3 1;4 0")
}

// P12.1: what and, or, and the operators do not need is worked out as well.
func TestAllKidsTick(t *testing.T) {
	ahead := "node up() returns (s: int); let s = 1 fby (s + 1); tel node odd() returns (b: bool); let b = true fby not b; tel "
	holdAll(t, ahead, []meaning{
		{"if c and odd() then 1 else 0", "0 0;0 1;0 1;0 0;0 1", "0;0;1;0;1"}, {"if c or odd() then 1 else 0", "0 1;0 0;0 0;0 1;0 0", "1;0;1;1;1"}, {"if odd() and c then 1 else 0", "0 1;0 1;0 1", "1;0;1"},
		{"0 * up() + up()", "0 0;0 0;0 0", "1;2;3"}, {"x / up()", "6 0;6 0;6 0;6 0", "6;3;2;1"}, {"x -> up()", "7 0;7 0;7 0", "7;2;3"}, {"up() -> up()", "0 0;0 0", "1;2"}, {"up() fby up()", "0 0;0 0;0 0", "1;1;2"},
		{"(up() -> 0) -> up()", "0 0;0 0", "1;2"}, {"(0 - 1) fby (0 -> up())", "0 0;0 0;0 0", "-1;0;2"},
	})
}

// P12.1: pre, -> and fby on the node's own clock.
func TestTicksAhead(t *testing.T) {
	holdAll(t, "", []meaning{
		{"0 -> pre x", "5 0;6 0;7 1", "0;5;6"}, {"x -> pre x", "5 0;6 0;7 1", "5;5;6"}, {"9 fby x", "5 0;6 0;7 1", "9;5;6"}, {"x fby x", "5 0;6 0;7 1", "5;5;6"}, {"x -> 1", "5 0;6 0;7 1", "5;1;1"}, {"1 -> x", "5 0;6 0;7 1", "1;6;7"},
		{"1 -> 2 -> 3", "0 0;0 0;0 0", "1;3;3"}, {"(1 -> 2) -> 3", "0 0;0 0;0 0", "1;3;3"}, {"1 fby 2 fby x", "7 0;8 0;9 0;0 0", "1;2;7;8"}, {"(1 fby 2) fby x", "7 0;8 0;9 0", "1;7;8"}, {"1 fby 2 fby 3 fby x", "7 0;8 0;9 0;0 0", "1;2;3;7"},
		{"0 -> pre (1 -> pre (2 -> pre x))", "7 0;8 0;9 0;0 0;0 0", "0;1;2;7;8"}, {"0 -> pre (x + 1) * 2", "5 0;6 0;7 0", "0;12;14"}, {"1 -> 2 fby x", "5 0;6 0;7 0", "1;5;6"}, {"1 fby (2 -> x)", "5 0;6 0;7 0;8 0", "1;2;6;7"},
		{"0 -> pre x + pre x", "5 0;6 0;7 0", "0;10;12"}, {"0 -> pre x - pre (0 -> pre x)", "5 0;7 0;10 0;14 0", "0;5;2;3"}, {"if c then (0 -> pre x) else (1 -> pre (- x))", "5 0;6 1;7 0;8 1", "1;5;-6;7"},
		{"x / (1 -> pre x)", "5 0;0 0;7 0;8 0", "5;0;0;1"}, {"(0 fby x) + (1 fby x)", "5 0;6 0", "1;10"},
	})
	hold(t, "node f(c: bool) returns (y, z: bool); let y = true -> pre c; z = false -> not pre z; tel", "0;1;0;0", "1 0;0 1;1 0;0 1")
	hold(t, "node f(c: bool) returns (y: bool); let y = false fby true fby c; tel", "0;1;1;0;0", "0;1;0;1;1")
}

// P12.1: a pre is 0 at its clock's first tick, where what is late may meet others, and none of that is told.
func TestLateNames(t *testing.T) {
	hold(t, many("a: int;", "a = pre x; y = 0 -> a + 1;"), "5 0 0;6 0 0;7 0 0", "0;6;7")
	hold(t, many("a, b, e: int;", "e = - b; b = a / a; a = pre x; y = 9 -> e;"), "5 0 0;0 0 0;7 0 0", "9;-1;0")
	hold(t, many("a: bool; b: int;", "a = not pre c; b = if a then 1 else 2; y = 0 -> b;"), "0 1 0;0 0 0;0 0 0", "0;2;1")
	hold(t, many("a: int when c;", "a = pre (x when c); y = merge c (0 -> a) (0 - 1);"), "5 0 0;6 1 0;7 0 0;8 1 0;9 1 0", "-1;0;-1;6;8")
	hold(t, many("a: int; b: int when c;", "a = pre x; b = a when c; y = merge c (0 -> b) (0 - 1);"), "5 0 0;6 1 0;7 0 0;8 1 0;9 1 0", "-1;0;-1;7;8")
	hold(t, many(";", "y = merge c (0 -> (pre x) when c) (0 - 1);"), "5 0 0;6 1 0;7 0 0;8 1 0;9 1 0", "-1;0;-1;7;8")
}

// P12.1: values come back round through pre and fby.
func TestFeedback(t *testing.T) {
	hold(t, one("0 fby (y + 1)"), "0 0;0 0;0 0", "0;1;2")
	hold(t, one("0 -> pre y + 1"), "0 0;0 0;0 0", "0;1;2")
	hold(t, one("x + (0 fby y)"), "1 0;2 0;3 0", "1;3;6")
	hold(t, one("1 fby (1 fby (y + (0 fby y)))"), "0 0;0 0;0 0;0 0;0 0;0 0", "1;1;1;2;2;3")
	hold(t, "node f() returns (a: int); var b: int; let a = 0 fby b; b = 1 fby (a + b); tel", ";;;;;;", "0;1;1;2;3;5;8")
	hold(t, many("a, b: int;", "y = a + b; a = 0 -> pre b; b = x + a;"), "1 0 0;2 0 0;3 0 0", "1;4;9")
	hold(t, many("a, b: int;", "a = 1 fby b; b = 2 fby a; y = 10 * a + b;"), "0 0 0;0 0 0;0 0 0", "12;21;12")
	hold(t, many("a: int;", "y = 0 fby a; a = x + y;"), "1 0 0;2 0 0;3 0 0", "0;1;3")
	hold(t, many("a: int;", "a = x + y; y = 0 fby a;"), "1 0 0;2 0 0;3 0 0", "0;1;3")
}
