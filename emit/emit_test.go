package emit_test

import (
	"slices"
	"strconv"
	"strings"
	"testing"

	"escapement/api"
	"escapement/code"
	"escapement/emit"
	"escapement/flat"
	"escapement/front"
	"escapement/mach"
	"escapement/mean"
	"escapement/syn"
	"escapement/valid"
)

// flatted is the flat node of a text that has no fault.
func flatted(t *testing.T, text string) syn.Node {
	t.Helper()
	l, f := front.Check(text)
	if f.Err != api.OK {
		t.Fatalf("P11.1: %q is no program: %v at %d", text, f.Err, f.At)
	}
	n, e := flat.Flat(l)
	if e != api.OK {
		t.Fatalf("P13.1: %q: %v", text, e)
	}
	return n
}

// rows reads rows as they are written here: values, and a ; between rows.
func rows(s string) []api.Row {
	var l []api.Row
	for _, row := range strings.Split(s, ";") {
		r := api.Row{}
		for _, word := range strings.Fields(row) {
			n, err := strconv.ParseInt(word, 10, 64)
			if err != nil {
				panic("no number: " + word)
			}
			r = append(r, n)
		}
		l = append(l, r)
	}
	return l
}

// written is the other way round.
func written(l []api.Row) string {
	var texts []string
	for _, r := range l {
		var words []string
		for _, n := range r {
			words = append(words, strconv.FormatInt(n, 10))
		}
		texts = append(texts, strings.Join(words, " "))
	}
	return strings.Join(texts, ";")
}

func countParts(e syn.Expr) int {
	sum := 1
	for _, k := range e.Kids {
		sum += countParts(k)
	}
	return sum
}

// size is how many equations a node has, and how many parts all of these.
func size(n syn.Node) (eqs, parts int) {
	for _, q := range n.Eqs {
		parts += countParts(q.E)
	}
	return len(n.Eqs), parts
}

func isZero(p code.Program) bool {
	return len(p.Ins)+len(p.Outs)+len(p.Slots)+len(p.Mems)+len(p.Consts)+len(p.Code) == 0
}

func kindsOf(vars []syn.Var) []api.Kind {
	var l []api.Kind
	for _, v := range vars {
		l = append(l, v.Kind)
	}
	return l
}

func show(n syn.Node) string {
	text := syn.Show([]syn.Node{n})
	return text[:min(len(text), 5000)]
}

// emitted holds all that a node's program must be beside what it means, and tells it; not ok: there is none, as it would
// be too great.
func emitted(t *testing.T, n syn.Node) (code.Program, bool) {
	t.Helper()
	p, e := emit.Emit(n)
	eqs, parts := size(n)
	if e != api.OK {
		if e != api.ELIMIT || !isZero(p) || eqs <= 60 && parts <= 400 {
			t.Fatalf("P15.1, R2: Emit of %d equations of %d parts: %v, %d instructions:\n%s", eqs, parts, e, len(p.Code), show(n))
		}
		return p, false
	}
	if f, ok := valid.Check(p); !ok {
		t.Fatalf("P15.1: Emit's program has a fault: %+v:\n%s", f, show(n))
	}
	if !slices.Equal(p.Ins, kindsOf(n.In)) || !slices.Equal(p.Outs, kindsOf(n.Out)) {
		t.Fatalf("P15.1: the kinds of inputs and outputs are %v and %v:\n%s", p.Ins, p.Outs, show(n))
	}
	for pc, i := range p.Code {
		words := append(strings.Fields(code.Show(i)), "0", "0")
		if c, b := words[3], words[2]; c != strconv.Itoa(i.C) || b != strconv.Itoa(i.B) {
			t.Fatalf("R2: instruction %d, %s, has operands %d, %d, %d", pc, code.Show(i), i.A, i.B, i.C)
		}
	}
	return p, true
}

// stepped is what a program tells of rows; it is asked once more behind a Reset.
func stepped(t *testing.T, p code.Program, in []api.Row) []api.Row {
	t.Helper()
	m, e := mach.New(p)
	if e != api.OK {
		t.Fatalf("P17.1: New: %v", e)
	}
	var all [2][]api.Row
	for k := range all {
		m.Reset()
		for _, r := range in {
			out, e := m.Step(r)
			if e != api.OK {
				t.Fatalf("P17.1: Step: %v", e)
			}
			all[k] = append(all[k], out)
		}
	}
	if written(all[0]) != written(all[1]) {
		t.Fatalf("P17.1: behind a Reset there is another answer")
	}
	return all[0]
}

// holdMeans holds that a node's program tells what is wanted of it, and whether there is one.
func holdMeans(t *testing.T, n syn.Node, in []api.Row, want string) bool {
	t.Helper()
	p, ok := emitted(t, n)
	if !ok {
		return false
	}
	if got := written(stepped(t, p, in)); got != want {
		t.Fatalf("P15.1: Emit's program of %q tells %q, want %q:\n%s", written(in), got, want, show(n))
	}
	return true
}

// meantBy is what a node means.
func meantBy(t *testing.T, n syn.Node, in []api.Row) string {
	t.Helper()
	l, e := mean.Run([]syn.Node{n}, in)
	if e != api.OK {
		t.Fatalf("P12.1: Run: %v:\n%s", e, show(n))
	}
	return written(l)
}

// hold holds what a text's program tells.
func hold(t *testing.T, text, in, want string) {
	t.Helper()
	n := flatted(t, text)
	if meant := meantBy(t, n, rows(in)); meant != want {
		t.Fatalf("P12.1: %q of %q means %q, want %q", text, in, meant, want)
	}
	if !holdMeans(t, n, rows(in), want) {
		t.Errorf("P15.1: there is no program of %q", text)
	}
}

// f is a program's main node of one equation.
func f(e string) string {
	return "node f(x: int; c: bool) returns (y: int); let y = " + e + "; tel"
}

// g is one of a bool.
func g(e string) string {
	return "node g(x, z: int; c, d: bool) returns (b: bool); let b = " + e + "; tel"
}

// many is one of several equations.
func many(decls, eqs string) string {
	return "node f(x: int; c, d: bool) returns (y: int); var " + decls + " let " + eqs + " tel"
}

// meaning is an expression, and what it means.
type meaning struct{ e, in, want string }

func holdAll(t *testing.T, main func(e string) string, l []meaning) {
	t.Helper()
	for _, m := range l {
		hold(t, main(m.e), m.in, m.want)
	}
}

// P15.1: a program that puts its input out; inputs and outputs in their order, of their kinds; nodes without either.
func TestInputsAndOutputs(t *testing.T) {
	hold(t, f("x"), "5 0;6 1", "5;6")
	hold(t, "node f(a: int; b: bool; d: int; e: bool) returns (q: bool; r, s: int; u: bool; v: int); let v = a; u = b; s = d; r = a; q = e; tel", "5 0 6 1;7 1 8 0", "1 5 6 0 5;0 7 8 1 7")
	hold(t, "node f() returns (y, z: int; w: bool); let w = true -> not pre w; y = 7; z = if w then 1 else 0; tel", ";;", "7 1 1;7 0 0;7 1 1")
	hold(t, "node f(a, b: int) returns (y, z: int); let y = z; z = b; tel", "1 2;3 4", "2 2;4 4")
	hold(t, "node f(a: int; unasked: bool) returns (y: int); var u: int; w: bool when unasked; let u = a + 1; y = a; w = true; tel", "1 0;3 1", "1;3")
	text := "node f("
	want := make([]string, api.MaxVars-1)
	for k := range want {
		want[k] = strconv.Itoa(k)
		text += map[bool]string{true: ", "}[k > 0] + "a" + want[k]
	}
	hold(t, text+": int) returns (y: int); let y = a62 - a0 * a61; tel", strings.Join(want, " "), "62")
	n := flatted(t, text+": int) returns (y: int); let y = a1; tel")
	holdMeans(t, n, rows(strings.Join(want, " ")), "1")
	text = "node f() returns (a0: int"
	eqs := "a0 = 1; "
	want[0] = "1"
	for k := 1; k < len(want); k++ {
		text, eqs, want[k] = text+"; a"+strconv.Itoa(k)+": int", eqs+"a"+strconv.Itoa(k)+" = "+strconv.Itoa(k)+" + a"+strconv.Itoa(k-1)+"; ", strconv.Itoa(1+k*(k+1)/2)
	}
	hold(t, text+"); let "+eqs+"tel", "", strings.Join(want, " "))
	var none syn.Node
	if p, ok := emitted(t, none); !ok || written(stepped(t, p, []api.Row{{}, {}})) != ";" {
		t.Errorf("P15.1: Emit of the node of no program: %+v, %v", p, ok)
	}
}

// P15.1: operators at all edges.
func TestOperators(t *testing.T) {
	const least = "-9223372036854775808"
	holdAll(t, f, []meaning{
		{"7", "0 0;0 1", "7;7"}, {"9223372036854775807", "0 0", "9223372036854775807"}, {"- x", "5 0;0 0;" + least + " 0", "-5;0;" + least}, {"- - x", "5 0", "5"},
		{"x + 1", "9223372036854775807 0;4 0", least + ";5"}, {"1 - x", "5 0;" + least + " 0", "-4;-9223372036854775807"}, {"x - 1", "5 0;" + least + " 0", "4;9223372036854775807"}, {"x * x", "4294967296 0;3037000500 0;-3 0", "0;-9223372036709301616;9"},
		{"x / 0 + x mod 0", "5 0;" + least + " 0", "0;0"}, {"x / 2 * 100 + x mod 2", "7 0;-7 0", "301;-301"}, {"7 / x", "2 0;-2 0;0 0;9 0", "3;-3;0;0"}, {"7 mod x", "2 0;-2 0;0 0;9 0;-4 0", "1;1;0;7;3"}, {"x / (- 1)", least + " 0;7 0", least + ";-7"}, {"x mod (- 1)", least + " 0;7 0", "0;0"},
		{"if c then x else - x", "5 1;6 0", "5;-6"}, {"if c then 1 else if x > 0 then 2 else 3", "0 0;1 0;0 1", "3;2;1"}, {"(if c then x else 1) + (if not c then x else 2)", "5 0;5 1", "6;7"},
	})
	const in = "1 2 0 0;2 1 0 1;2 2 1 0;-1 1 1 1"
	holdAll(t, g, []meaning{
		{"x = z", in, "0;0;1;0"}, {"x <> z", in, "1;1;0;1"}, {"x < z", in, "1;0;0;1"}, {"x <= z", in, "1;0;1;1"}, {"x > z", in, "0;1;0;0"}, {"x >= z", in, "0;1;1;0"}, {"c = d", in, "1;0;0;1"}, {"c <> d", in, "0;1;1;0"},
		{"c and d", in, "0;0;0;1"}, {"c or d", in, "0;1;1;1"}, {"c xor d", in, "0;1;1;0"}, {"not c", in, "1;1;0;0"}, {"not not d", in, "0;1;0;1"}, {"true", in, "1;1;1;1"}, {"false", in, "0;0;0;0"}, {"if c then d else true", in, "1;1;0;1"}, {"not (x <> z) = (c or false)", in, "1;1;1;0"},
	})
	holdAll(t, g, []meaning{{"x < z", least + " 9223372036854775807 0 0;9223372036854775807 " + least + " 0 0", "1;0"}, {"x >= z", least + " 9223372036854775807 0 0;9223372036854775807 " + least + " 0 0;0 0 0 0", "0;1;1"}})
}

// P15.1: what one tick keeps for the next, on the node's own clock.
func TestTicksAhead(t *testing.T) {
	holdAll(t, f, []meaning{
		{"0 -> pre x", "5 0;6 0;7 1", "0;5;6"}, {"x -> pre x", "5 0;6 0;7 1", "5;5;6"}, {"9 fby x", "5 0;6 0;7 1", "9;5;6"}, {"x fby x", "5 0;6 0;7 1", "5;5;6"}, {"x -> 1", "5 0;6 0;7 1", "5;1;1"}, {"1 -> x", "5 0;6 0;7 1", "1;6;7"},
		{"1 -> 2 -> 3", "0 0;0 0;0 0", "1;3;3"}, {"(1 -> 2) -> 3", "0 0;0 0;0 0", "1;3;3"}, {"1 fby 2 fby x", "7 0;8 0;9 0;0 0", "1;2;7;8"}, {"(1 fby 2) fby x", "7 0;8 0;9 0", "1;7;8"}, {"1 fby 2 fby 3 fby x", "7 0;8 0;9 0;0 0", "1;2;3;7"},
		{"0 -> pre (1 -> pre (2 -> pre x))", "7 0;8 0;9 0;0 0;0 0", "0;1;2;7;8"}, {"1 fby (2 -> x)", "5 0;6 0;7 0;8 0", "1;2;6;7"}, {"0 -> pre x - pre (0 -> pre x)", "5 0;7 0;10 0;14 0", "0;5;2;3"}, {"if c then (0 -> pre x) else (1 -> pre (- x))", "5 0;6 1;7 0;8 1", "1;5;-6;7"},
		{"(0 fby x) + (1 fby x)", "5 0;6 0", "1;10"}, {"x + (0 fby y)", "1 0;2 0;3 0", "1;3;6"}, {"0 fby (y + 1)", "0 0;0 0;0 0", "0;1;2"}, {"0 -> pre y + 1", "0 0;0 0;0 0", "0;1;2"}, {"1 fby (1 fby (y + (0 fby y)))", "0 0;0 0;0 0;0 0;0 0;0 0", "1;1;1;2;2;3"},
		{"0 -> pre 7", "0 0;0 0", "0;7"}, {"3 fby 7", "0 0;0 0;0 0", "3;7;7"}, {"0 -> pre (if c then x else - x)", "5 0;6 1;7 1", "0;-5;6"}, {"0 -> pre (merge c 1 2)", "0 0;0 1;0 1", "0;2;1"},
	})
	holdAll(t, g, []meaning{
		{"true -> pre c", "0 0 0 0;0 0 1 0;0 0 1 0", "1;0;1"}, {"false -> not pre b", "0 0 0 0;0 0 0 0;0 0 0 0", "0;1;0"}, {"false fby true fby c", "0 0 0 0;0 0 1 0;0 0 0 0;0 0 0 0", "0;1;0;1"}, {"true fby (x > 3)", "5 0 0 0;1 0 0 0;0 0 0 0", "1;1;0"},
		{"true -> pre (if c then d else x = 3)", "3 0 0 0;0 0 1 1;1 0 1 0;0 0 0 0", "1;1;1;0"}, {"true -> pre not c", "0 0 0 0;0 0 1 0;0 0 0 0", "1;1;0"}, {"true -> pre (c <> d)", "0 0 0 1;0 0 1 1;0 0 0 0", "1;1;0"}, {"true -> pre (c and d)", "0 0 1 1;0 0 0 1;0 0 0 0", "1;1;0"}, {"false fby (x < z -> c)", "1 2 0 0;0 0 1 0;0 0 0 0", "0;1;1"}, {"false fby not (merge c (d when c) false)", "0 0 1 1;0 0 1 0;0 0 0 0;0 0 0 0", "0;0;1;1"},
	})
	// Values that come round by way of others, in any order of the equations.
	hold(t, "node f() returns (a: int); var b: int; let a = 0 fby b; b = 1 fby (a + b); tel", ";;;;;;", "0;1;1;2;3;5;8")
	hold(t, many("a, b: int;", "y = a + b; a = 0 -> pre b; b = x + a;"), "1 0 0;2 0 0;3 0 0", "1;4;9")
	hold(t, many("a, b: int;", "a = 1 fby b; b = 2 fby a; y = 10 * a + b;"), "0 0 0;0 0 0;0 0 0", "12;21;12")
	hold(t, many("a: int;", "y = 0 fby a; a = x + y;"), "1 0 0;2 0 0;3 0 0", "0;1;3")
	hold(t, many("a: int;", "a = x + y; y = 0 fby a;"), "1 0 0;2 0 0;3 0 0", "0;1;3")
	hold(t, many("a, b, e, h: int;", "y = a - 1; b = e * 2; h = x; a = b - 1; e = h + 5;"), "1 0 0;2 0 0", "10;12")
	// Names that are late: what a pre is at the first tick goes on to whom it makes late, and is not told.
	hold(t, many("a: int;", "a = pre x; y = 0 -> a + 1;"), "5 0 0;6 0 0;7 0 0", "0;6;7")
	hold(t, many("a, b, e: int;", "e = - b; b = a / a; a = pre x; y = 9 -> e;"), "5 0 0;0 0 0;7 0 0", "9;-1;0")
	hold(t, many("a: bool; b: int;", "a = not pre c; b = if a then 1 else 2; y = 0 -> b;"), "0 1 0;0 0 0;0 0 0", "0;2;1")
}

const clocked = "1 0;2 1;3 0;4 1;5 1;6 0"

// P15.1: when and merge, and what is kept on clocks: from one of their ticks to the next.
func TestClocks(t *testing.T) {
	holdAll(t, f, []meaning{
		{"merge c 1 2", "0 1;0 0", "1;2"}, {"merge c (x when c) (- x when not c)", "5 1;6 0;7 0;8 1", "5;-6;-7;8"}, {"merge c 0 (x when not c * 2)", "5 1;6 0", "0;12"}, {"merge c (merge c 1 2 when c) 3", "5 1;6 0", "1;3"},
		{"merge c (0 -> pre (x when c)) (- 1)", clocked, "-1;0;-1;2;4;-1"}, {"merge c (x when c fby x when c) (- 1)", clocked, "-1;2;-1;2;4;-1"}, {"merge c (9 fby (x when c)) (- 1)", clocked, "-1;9;-1;2;4;-1"}, {"merge c (x when c -> 7) (- 1)", clocked, "-1;2;-1;7;7;-1"},
		{"merge c (- 1) (0 -> pre (x when not c))", clocked, "0;-1;1;-1;-1;3"}, {"merge c (- 1) (9 fby 8 fby (x when not c))", clocked, "9;-1;8;-1;-1;1"}, {"merge c (- 1) (x when not c -> 7)", clocked, "1;-1;7;-1;-1;7"}, {"merge c (0 -> pre (x when c)) (100 -> pre (x when not c))", clocked, "100;0;1;2;4;3"},
		{"merge c ((0 -> pre x) when c) (- 1)", clocked, "-1;1;-1;3;4;-1"}, {"merge c ((9 fby x) when c) (- 1)", clocked, "-1;1;-1;3;4;-1"}, {"merge c ((9 -> x) when c) (- 1)", clocked, "-1;2;-1;4;5;-1"}, {"merge c (- 1) ((9 -> pre x) when not c)", clocked, "9;-1;2;-1;-1;5"},
		{"merge c (0 -> pre ((0 -> pre x) when c)) (- 1)", clocked, "-1;0;-1;1;3;-1"}, {"merge c (((0 fby x) when c) fby 5) (- 1)", clocked, "-1;1;-1;5;5;-1"}, {"0 fby (merge c ((0 fby x) when c) (- 1))", clocked, "0;-1;1;-1;3;4"},
		{"merge c (0 fby 0 fby (x when c)) (0 fby 0 fby (x when not c))", clocked, "0;0;0;0;2;1"}, {"merge c (0 -> pre (x when c)) (0) + (0 -> pre x)", clocked, "0;1;2;5;8;5"},
	})
	// What may be there whenever it is wanted is there at the ticks of what it stands in.
	holdAll(t, f, []meaning{
		{"1 -> 2", clocked, "1;2;2;2;2;2"}, {"merge c (1 -> 2) (3 -> 4)", clocked, "3;1;4;2;2;4"}, {"merge c (1 fby 2 fby 3) (4 fby 5)", clocked, "4;1;5;2;3;5"}, {"merge c ((1 fby 2 fby 3 fby 4) when c) (0)", clocked, "0;2;0;4;4;0"},
		{"merge c (x when c + (1 -> 2)) (0)", clocked, "0;3;0;6;7;0"}, {"merge c (x when c + ((1 fby 2 fby 3 fby 4) when c)) (0)", clocked, "0;4;0;8;9;0"}, {"if c then 1 -> 2 else 3", clocked, "3;2;3;2;2;3"}, {"merge c (if (true -> false) then 1 else 2) (0)", clocked, "0;1;0;2;2;0"},
		{"merge c (- (1 -> 2)) (0)", clocked, "0;-1;0;-2;-2;0"}, {"merge c (if not (true -> false) then 1 else 2) (0)", clocked, "0;2;0;1;1;0"}, {"merge c (0 -> pre (1 -> 2)) (0)", clocked, "0;0;0;1;2;0"}, {"merge c ((1 -> 2) -> pre (3 -> 4)) (0)", clocked, "0;1;0;3;4;0"}, {"(merge c (1 -> 2) (3)) * (1 -> 10)", clocked, "3;10;30;20;20;30"},
	})
}

// P15.1: clocks of several steps, each on the one ahead; a step's name may be an input, an output or a local.
func TestClocksOnClocks(t *testing.T) {
	const in = "1 0 0;2 1 0;3 1 1;4 0 1;5 1 0;6 1 1;7 1 1"
	for e, want := range map[string]string{
		"merge c (merge e ((9 fby (x when c)) when e) (0)) 1":             "1;0;2;1;0;5;6",
		"merge c (merge e (((9 fby x) when c) when e) (0)) 1":             "1;0;2;1;0;5;6",
		"merge c (merge e (9 fby ((x when c) when e)) (0)) 1":             "1;0;9;1;0;3;6",
		"merge c (merge e (0) ((9 fby (x when c)) when not e)) 1":         "1;9;0;1;3;0;0",
		"merge c (merge e (0) (((9 fby x) when c) when not e)) 1":         "1;1;0;1;4;0;0",
		"merge c (merge e (0) (9 fby ((x when c) when not e))) 1":         "1;9;0;1;2;0;0",
		"merge c (merge e (8 fby ((9 fby (x when c)) when e)) (0)) 1":     "1;0;8;1;0;2;5",
		"merge c (7 fby merge e ((9 fby (x when c)) when e) (- (1))) (1)": "1;7;-1;1;2;-1;5",
		"merge c (merge e (1 -> 2) (3 -> 4)) (5 -> 6)":                    "5;3;1;6;4;2;2",
	} {
		hold(t, many("e: bool when c;", "e = d when c; y = "+e+";"), in, want)
	}
	hold(t, many("a: int when c; b: int when not c;", "y = merge c a b; a = 0 fby (a + 1); b = 100 -> pre b + 1;"), "0 1 0;0 0 0;0 1 0;0 0 0;0 1 0", "0;100;1;101;2")
	hold(t, many("a: int when c;", "a = (0 fby (y + x)) when c; y = merge c (a) (3);"), "1 1 0;2 0 0;3 1 0;4 1 0;5 0 0;6 1 0", "0;3;5;8;3;8")
	hold(t, many("a: int when c;", "a = pre (x when c); y = merge c (0 -> a) (0 - 1);"), "5 0 0;6 1 0;7 0 0;8 1 0;9 1 0", "-1;0;-1;6;8")
	hold(t, many("e: bool when c; q: int when e; r: int when not e; s: int when c;", "e = (x > 0) when c; q = 0 -> pre q + 1; r = 0 -> pre r - 1; s = merge e q r; y = merge c (s) (50);"), "1 1 0;1 0 0;0 1 0;2 1 0;0 1 0;0 0 0;3 1 0", "0;50;0;1;-1;50;2")
	hold(t, many("a: int when c; b: int when not c; e: int;", "a = 1 -> 2; b = (3 fby 4 fby 5) when not c; e = 6 -> 7; y = 10 * e + merge c (a) (b);"), "0 0 0;0 1 0;0 0 0;0 1 0", "63;71;75;72")
	hold(t, "node f(x: int) returns (o: bool; y: int); var a: int when o; let o = false fby not o; a = x when o; y = merge o (a) (0); tel", "1;2;3;4", "0 0;1 2;0 0;1 4")
	hold(t, "node f(x: int) returns (o: bool; y: int); var a: int when not o; let y = merge o (x when o) (a); a = 7 fby (x when not o); o = 3 < x; tel", "1;2;5;3", "0 7;0 1;1 5;0 2")
	hold(t, many("k: bool; a: int when not k;", "k = false fby (y > 2); a = x when not k; y = merge k (0) (a);"), "1 0 0;3 0 0;4 0 0;5 0 0", "1;3;0;5")
	hold(t, "node f(a, b: bool) returns (y: int); var p: bool when a; q: bool when not p; r: bool when q; s: int when not r; "+
		"let s = 1 fby (s + 1); r = true fby not r; q = not b when a when not p; p = (b when a) and (false fby p); y = merge a (merge p 10 (merge q (merge r 20 s) 30)) 40; tel",
		"0 0;1 1;1 0;1 0;1 0;1 1;1 0;0 0;1 0", "40;30;20;1;20;30;2;40;20")
}

// P15.1: of what flat makes of calls: names that are no text's, locals for arguments, clocks of calls.
func TestCalls(t *testing.T) {
	const sum = "node sum(a: int) returns (s: int); let s = a + (0 fby s); tel node count() returns (n: int); let n = 1 fby (n + 1); tel "
	holdAll(t, func(e string) string { return sum + f(e) }, []meaning{
		{"sum(x)", clocked, "1;3;6;10;15;21"}, {"sum(x) + sum(x * 10)", clocked, "11;33;66;110;165;231"}, {"sum(sum(x))", clocked, "1;4;10;20;35;56"}, {"0 -> pre sum(x)", clocked, "0;1;3;6;10;15"}, {"sum(0 -> pre x)", clocked, "0;1;3;6;10;15"}, {"0 fby sum(y + 1)", clocked, "0;1;3;7;15;31"}, {"if c then sum(x) else 0", clocked, "0;3;0;10;15;0"},
		{"merge c sum(x when c) sum(x when not c)", clocked, "1;2;4;6;11;10"}, {"merge c (sum(x) when c) (0)", clocked, "0;3;0;10;15;0"}, {"merge c sum(1) (sum(1) when not c)", clocked, "1;1;3;2;3;6"}, {"merge c (sum(x) when c + sum(x when c)) (0)", clocked, "0;5;0;16;26;0"}, {"merge c sum(sum(x) when c) (0)", clocked, "0;3;0;13;28;0"},
		{"merge c sum(count()) count()", clocked, "1;1;2;3;6;3"}, {"merge c (sum(count()) when c) count()", clocked, "1;3;2;10;15;3"}, {"merge c (0 fby sum(x when c)) (0)", clocked, "0;0;0;2;6;0"}, {"sum(merge c (count()) (0))", clocked, "0;1;1;3;6;6"}, {"count() -> count()", clocked, "1;2;3;4;5;6"},
	})
	holdAll(t, func(e string) string {
		return "node hold(x: int; c: bool) returns (o: int); var y: int when c; let o = merge c (y) ((0 fby o) when not c); y = x when c; tel " + f(e)
	}, []meaning{
		{"hold(x, c)", clocked, "0;2;2;4;5;5"}, {"hold(x, not c)", clocked, "1;1;3;3;3;6"}, {"merge c hold(x when c, true -> false) (0)", clocked, "0;2;0;2;2;0"}, {"merge c (hold(x, true -> false) when c) (0)", clocked, "0;1;0;1;1;0"}, {"hold(hold(x, c), not c)", clocked, "0;0;2;2;2;5"}, {"hold(x, hold(x, c) > 3)", clocked, "0;0;0;4;5;6"},
	})
	hold(t, "node g(k: bool; v: int) returns (o: int); let o = merge k ((0 fby v) when k) (9); tel node f(c, k: bool; v: int) returns (y: int); let y = merge c g(k when c, v when c) (7); tel", "1 1 1;0 1 2;1 0 3;1 1 4;0 0 5;1 1 6", "0;7;9;3;7;4")
}
