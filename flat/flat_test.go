package flat_test

import (
	"fmt"
	"slices"
	"strconv"
	"strings"
	"testing"

	"escapement/api"
	"escapement/cau"
	"escapement/clk"
	"escapement/flat"
	"escapement/front"
	"escapement/ini"
	"escapement/mean"
	"escapement/names"
	"escapement/syn"
	"escapement/typ"
)

// program reads a text that has no fault.
func program(t *testing.T, text string) []syn.Node {
	t.Helper()
	l, f := front.Check(text)
	if f.Err != api.OK {
		t.Fatalf("P13.1: %q is no program: %v at %d", text, f.Err, f.At)
	}
	return l
}

// dump tells all of a program.
func dump(l []syn.Node) string { return fmt.Sprintf("%+v", l) }

// rows reads rows as they are written here: values, and a ; between rows.
func rows(s string) []api.Row {
	var l []api.Row
	for _, row := range strings.Split(s, ";") {
		r := api.Row{}
		for _, word := range strings.Fields(row) {
			n, err := strconv.ParseInt(word, 10, 64)
			if err != nil {
				panic("no number: " + word)
			}
			r = append(r, n)
		}
		l = append(l, r)
	}
	return l
}

// written is the other way round.
func written(l []api.Row) string {
	var b strings.Builder
	for i, r := range l {
		if i > 0 {
			b.WriteString(";")
		}
		for k, n := range r {
			if k > 0 {
				b.WriteString(" ")
			}
			b.WriteString(strconv.FormatInt(n, 10))
		}
	}
	return b.String()
}

// holdFlat holds all that a flat node must be beside what it means, and tells it.
func holdFlat(t *testing.T, l []syn.Node) syn.Node {
	t.Helper()
	was := dump(l)
	n, e := flat.Flat(l)
	main := l[len(l)-1]
	if e != api.OK || n.Name != main.Name || !slices.Equal(n.In, main.In) || !slices.Equal(n.Out, main.Out) {
		t.Fatalf("P13.1: Flat of\n%s: %v\n%s", syn.Show(l), e, syn.Show([]syn.Node{n}))
	}
	one := []syn.Node{n}
	for name, check := range map[string]func([]syn.Node) api.Fault{"names": names.Check, "typ": typ.Check, "clk": clk.Check, "ini": ini.Check, "cau": cau.Check} {
		if f := check(one); f != (api.Fault{}) {
			t.Fatalf("P13.1: Flat of\n%s has a fault of %s: %v\n%s", syn.Show(l), name, f.Err, syn.Show(one))
		}
	}
	for _, q := range n.Eqs {
		if !isFormed(q.E) {
			t.Fatalf("P13.1: Flat of\n%s has calls, or parts of no form:\n%+v", syn.Show(l), q)
		}
	}
	if m, e := flat.Flat(l); e != api.OK || dump([]syn.Node{m}) != dump(one) || dump(l) != was {
		t.Fatalf("R4, R5: Flat of\n%s, asked twice:\n%s\n%s", was, syn.Show(one), syn.Show([]syn.Node{m}))
	}
	if text := placesInTexts(n); text != "" {
		t.Fatalf("R2: Flat of\n%s tells where in a text there stands %s", syn.Show(l), text)
	}
	return n
}

// isFormed tells whether an expression has no calls, and all its parts just what P5.1's table says.
func isFormed(e syn.Expr) bool {
	kids, ok := map[string]int{"int": 0, "bool": 0, "var": 0, "not": 1, "neg": 1, "pre": 1, "when": 1, "if": 3, "merge": 2}[e.Op]
	if !ok {
		kids = 2
	}
	isNamed, isNumbered := e.Op == "var" || e.Op == "when" || e.Op == "merge", e.Op == "int" || e.Op == "bool" || e.Op == "when"
	return e.Op != "call" && len(e.Kids) == kids && isNamed == (e.Name != "") && (isNumbered || e.N == 0) && !slices.ContainsFunc(e.Kids, func(k syn.Expr) bool { return !isFormed(k) })
}

func hasCalls(e syn.Expr) bool { return e.Op == "call" || slices.ContainsFunc(e.Kids, hasCalls) }

// placesInTexts tells what of a node has a place in a text, though the chapter names none but of inputs and outputs.
func placesInTexts(n syn.Node) string {
	var has func(e syn.Expr) bool
	has = func(e syn.Expr) bool { return e.At != 0 || slices.ContainsFunc(e.Kids, has) }
	if n.At != 0 {
		return "the node"
	}
	for _, v := range n.Locals {
		if v.At != 0 {
			return v.Name
		}
	}
	for _, q := range n.Eqs {
		if q.At != 0 || has(q.E) {
			return q.Name + "'s equation"
		}
	}
	return ""
}

// holdMeans holds that a program's flat node means what the program means, and tells what that is.
func holdMeans(t *testing.T, l []syn.Node, in []api.Row) string {
	t.Helper()
	n := holdFlat(t, l)
	want, err := mean.Run(l, in)
	if err != api.OK {
		t.Fatalf("P12.1: Run of\n%sof %s: %v", syn.Show(l), written(in), err)
	}
	if out, e := mean.Run([]syn.Node{n}, in); e != api.OK || written(out) != written(want) || len(out) != len(in) {
		t.Fatalf("P13.1: Flat of\n%sof %s means %v, %s, want %s:\n%s", syn.Show(l), written(in), e, written(out), written(want), syn.Show([]syn.Node{n}))
	}
	return written(want)
}

// hold holds what a text's flat node means, and so of each beginning of its inputs.
func hold(t *testing.T, text, in, want string) {
	t.Helper()
	l, all := program(t, text), rows(in)
	if got := holdMeans(t, l, all); got != want {
		t.Errorf("P13.1: %q of %q means %q, want %q", text, in, got, want)
	}
	for k := range all {
		holdMeans(t, l, all[:k])
	}
}

// one is a program's main node of one equation.
func one(e string) string {
	return "node f(x: int; c: bool) returns (y: int); let y = " + e + "; tel"
}

// many is one of several.
func many(decls, eqs string) string {
	return "node f(x: int; c, d: bool) returns (y: int); var " + decls + " let " + eqs + " tel"
}

// meaning is an expression of x and c, and what it means.
type meaning struct{ e, in, want string }

func holdAll(t *testing.T, ahead string, l []meaning) {
	t.Helper()
	for _, m := range l {
		hold(t, ahead+one(m.e), m.in, m.want)
	}
}

// P13.1: a program of one node without calls means the same; it stays as it is.
func TestNodesWithoutCalls(t *testing.T) {
	for _, text := range []string{
		"node f() returns (y: int); let y = 7; tel",
		"node f(x: int; c: bool) returns (b: bool; y: int; z: bool); let z = c; y = x; b = not c; tel",
		"node f(x: int; c: bool) returns (y: int); var a: int; b: bool when c; d, e: int when not b; let a = pre x; b = (true fby not c) when c; d = e / 2; e = (x when c) when not b; y = merge c (merge b 1 (d)) ((0 -> a) when not c); tel",
		"node f(x: int; c: bool) returns (y: int); let y = if c and x < 3 or x >= 10 xor c then x mod 7 else - x * 2; tel",
	} {
		l := program(t, text)
		if n := holdFlat(t, l); !syn.Same([]syn.Node{n}, l) {
			t.Errorf("P13.1: Flat of %s: %s", text, syn.Show([]syn.Node{n}))
		}
	}
	hold(t, one("0 -> pre x"), "5 0;6 0;7 1", "0;5;6")
	hold(t, one("merge c (0 -> pre (x when c)) (- 1)"), "5 1;6 0;7 1;8 1", "0;-1;5;7")
}

// P13.1: the main node is the last one; nodes that it does not call are not in it.
func TestMainNode(t *testing.T) {
	l := program(t, "node a(x: int) returns (y: int); let y = x + 1; tel node b(p, q: bool) returns (r, s: bool); let s = p; r = q and p; tel node d(z: int) returns (o: int); let o = z * 2; tel node e() returns (o, p: int); let o = a(3); p = 4; tel")
	for size, want := range map[int]string{1: "a", 2: "b", 3: "d"} {
		if n := holdFlat(t, l[:size]); n.Name != want || !syn.Same([]syn.Node{n}, l[size-1:size]) {
			t.Errorf("P13.1: Flat of %d nodes: %s", size, syn.Show([]syn.Node{n}))
		}
	}
	if got := holdMeans(t, l, []api.Row{{}, {}}); got != "4 4;4 4" {
		t.Errorf("P13.1: Flat of all nodes means %s", got)
	}
	for _, none := range [][]syn.Node{nil, {}, l[:0]} {
		if n, e := flat.Flat(none); e != api.OK || dump([]syn.Node{n}) != dump([]syn.Node{{}}) {
			t.Errorf("P13.1: Flat of no nodes: %v, %+v", e, n)
		}
	}
}

// P13.1: Flat of a flat node is that node.
func TestFlatOfFlat(t *testing.T) {
	for _, text := range samples {
		n := holdFlat(t, program(t, text))
		if m, e := flat.Flat([]syn.Node{n}); e != api.OK || dump([]syn.Node{m}) != dump([]syn.Node{n}) {
			t.Errorf("P13.1: Flat of what Flat told of %s: %v, %s", text, e, syn.Show([]syn.Node{m}))
		}
	}
}

// sum adds up, and count counts.
const sum = "node sum(a: int) returns (s: int); let s = a + (0 fby s); tel node count() returns (n: int); let n = 1 fby (n + 1); tel "

// samples are programs that have all of the language, each of x, an int, and c, a bool.
var samples = []string{
	sum + one("sum(x) + merge c (count()) ((0 fby x) when not c) * sum(count())"),
	"node g(a: int; c: bool) returns (y: int); var p: int when c; q: int when not c; let p = a when c -> pre p + 1; q = 3 fby (a when not c); y = merge c (p) (q); tel " + one("if c and g(x, c) < 5 xor true then - g(x, not c) else x mod 3 / 2"),
	"node f(x: int; c: bool) returns (y: int; o, z: bool); var late: int; e: bool when c; let late = pre x; y = 0 -> late - 1; e = true fby not e; o = merge c (e) false; z = c or x >= 3 or x <> y; tel",
	sum + "node two(a: int; k: bool) returns (s: int); var t: int when k; let t = sum(sum(a when k)); s = merge k (t + count()) (sum(a) when not k); tel " + one("two(x, x > 2) - two(two(x * 2, c), true -> false)"),
}

// P13.1: a call is the output of a node of its own, which ticks at the ticks of the call's clock.
func TestCalls(t *testing.T) {
	const in = "1 0;2 1;3 0;4 1;5 1;6 0"
	holdAll(t, sum, []meaning{
		{"sum(x)", in, "1;3;6;10;15;21"}, {"sum(x) + sum(x)", in, "2;6;12;20;30;42"}, {"sum(x) + sum(x * 10)", in, "11;33;66;110;165;231"}, {"sum(sum(x))", in, "1;4;10;20;35;56"}, {"sum(sum(sum(1)))", in, "1;4;10;20;35;56"}, {"count()", in, "1;2;3;4;5;6"},
		{"count() * 10 + count()", in, "11;22;33;44;55;66"}, {"0 -> pre sum(x)", in, "0;1;3;6;10;15"}, {"sum(0 -> pre x)", in, "0;1;3;6;10;15"}, {"0 fby sum(y + 1)", in, "0;1;3;7;15;31"}, {"if c then sum(x) else 0", in, "0;3;0;10;15;0"}, {"sum(if c then x else 0)", in, "0;2;2;6;11;11"},
		{"merge c sum(x when c) sum(x when not c)", in, "1;2;4;6;11;10"}, {"merge c (sum(x) when c) (0)", in, "0;3;0;10;15;0"}, {"merge c sum(1) (sum(1) when not c)", in, "1;1;3;2;3;6"}, {"merge c count() (count() when not c)", in, "1;1;3;2;3;6"},
		{"merge c (sum(x) when c + sum(x when c)) (0)", in, "0;5;0;16;26;0"}, {"merge c sum(sum(x) when c) (0)", in, "0;3;0;13;28;0"}, {"merge c sum(count()) count()", in, "1;1;2;3;6;3"}, {"merge c (sum(count()) when c) count()", in, "1;3;2;10;15;3"},
		{"merge c (0 fby sum(x when c)) (0)", in, "0;0;0;2;6;0"}, {"merge c (0 fby (sum(x) when c)) (0)", in, "0;0;0;3;10;0"}, {"sum(merge c (count()) (0))", in, "0;1;1;3;6;6"}, {"count() -> 0", in, "1;0;0;0;0;0"}, {"0 -> count()", in, "0;2;3;4;5;6"},
		{"- count()", in, "-1;-2;-3;-4;-5;-6"}, {"if sum(x) > 5 then 1 else 0", in, "0;0;1;1;1;1"}, {"if c then 0 else count()", in, "1;0;3;0;0;6"}, {"merge c 0 sum(1)", in, "1;0;2;0;0;3"}, {"merge c (0) ((sum(x) * count()) when not c)", in, "1;0;18;0;0;126"},
	})
}

// P13.1: what may be there whenever it is wanted stands on the clock of what it stands in, though it has no name there.
func TestCallsOnAnyClock(t *testing.T) {
	const in = "1 0;2 1;3 0;4 1;5 1;6 0"
	ahead := sum + "node steps() returns (n: int); let n = 10 -> 20 -> 30; tel node old(a: int) returns (o: int); let o = 7 -> pre a; tel "
	holdAll(t, ahead, []meaning{
		{"merge c steps() count()", in, "1;10;2;30;30;3"}, {"merge c old(1 -> 2) (0)", in, "0;7;0;1;2;0"}, {"merge c (old(1 -> 2) when c) (0)", in, "0;1;0;2;2;0"}, {"merge c (old(1 -> 2) + (x when c)) (0)", in, "0;9;0;5;7;0"}, {"merge c (if c when c then old(5 fby 6) else 0) (0)", in, "0;7;0;5;6;0"},
		{"old(1 -> 2)", in, "7;1;2;2;2;2"}, {"x + old(5)", in, "8;7;8;9;10;11"}, {"merge c (old(x when c)) (old(x when not c))", in, "7;7;1;2;4;3"}, {"merge c (0 -> pre old(count())) (0)", in, "0;0;0;7;1;0"}, {"merge c (0 fby old(count()) when c) (0)", in, "0;0;0;1;3;0"},
		{"merge c (old(count()) -> 3) (old(count() -> 0))", in, "7;7;1;3;3;0"}, {"old(merge c 1 2)", in, "7;2;1;2;1;1"}, {"merge c (- old(- count())) (0)", in, "0;-7;0;1;2;0"},
	})
	hold(t, ahead+many("a: int when c; b: int when not c; e: int;", "a = old(count()); b = old(count()) when not c; e = old(1); y = 10 * e + merge c (a) (b);"), "0 0 0;0 1 0;0 0 0;0 1 0", "77;17;12;11")
	hold(t, ahead+many("e: bool when c; a: int when e;", "e = true fby not e; a = old(count()); y = merge c (merge e (a) (count())) 6;"), "0 1 0;0 0 0;0 1 0;0 1 0;0 1 0;0 1 0", "7;6;1;1;2;2")
	hold(t, ahead+many("e: bool when not d; a: int when not e;", "e = true fby not e; a = old(count() * 2); y = merge d 6 merge e (count()) (a);"), "0 0 0;0 0 1;0 0 0;0 0 0;0 0 0;0 0 0", "1;6;7;2;2;3")
}

// P13.1: a call beneath a when ticks at the ticks of its name, which has a clock of its own.
func TestCallsBeneathWhen(t *testing.T) {
	const ins = "1 0 0;2 1 0;3 1 1;4 0 1;5 1 0;6 1 1;7 1 1"
	for e, want := range map[string]string{
		"merge c (merge e (sum(x when c) when e) (0)) 1":                   "1;0;5;1;0;16;23",
		"merge c (merge e ((sum(x) when c) when e) (0)) 1":                 "1;0;6;1;0;21;28",
		"merge c (merge e (sum((x when c) when e)) (0)) 1":                 "1;0;3;1;0;9;16",
		"merge c (merge e (count()) (count() when not e)) (1)":             "1;1;1;1;3;2;3",
		"merge c (merge e (0) (count() when not e)) (1)":                   "1;1;0;1;3;0;0",
		"merge c (merge e (0) ((count() when c) when not e)) (1)":          "1;2;0;1;5;0;0",
		"merge c (merge e (0) (sum(count() when c) when not e)) (1)":       "1;2;0;1;10;0;0",
		"merge c (count() + merge e (count()) (0)) (0 - count())":          "-1;1;3;-2;3;6;8",
		"merge c (merge e (0) (sum((count() when c) when not e))) count()": "1;2;0;2;7;0;0",
	} {
		hold(t, sum+many("e: bool when c;", "e = d when c; y = "+e+";"), ins, want)
	}
}

// P13.1: the node that is called has its own names, clocks and ticks: its first one is the call's first one.
func TestCalledNodes(t *testing.T) {
	const in = "1 0;2 1;3 0;4 1;5 1;6 0"
	holdAll(t, "node hold(x: int; c: bool) returns (o: int); var y: int when c; let o = merge c (y) ((0 fby o) when not c); y = x when c; tel ", []meaning{
		{"hold(x, c)", in, "0;2;2;4;5;5"}, {"hold(x, not c)", in, "1;1;3;3;3;6"}, {"hold(0 - x, true)", in, "-1;-2;-3;-4;-5;-6"}, {"hold(x, false)", in, "0;0;0;0;0;0"}, {"merge c hold(x when c, true -> false) (0)", in, "0;2;0;2;2;0"}, {"merge c (hold(x, true -> false) when c) (0)", in, "0;1;0;1;1;0"},
		{"hold(hold(x, c), not c)", in, "0;0;2;2;2;5"}, {"hold(x, hold(x, c) > 3)", in, "0;0;0;4;5;6"},
	})
	holdAll(t, "node sub(a, b: int) returns (a1: int); let a1 = a - b; tel node swap(a, b: int) returns (y: int); let y = sub(b, a); tel ", []meaning{
		{"sub(x, 1)", in, "0;1;2;3;4;5"}, {"swap(x, 1)", in, "0;-1;-2;-3;-4;-5"}, {"sub(swap(1, x), sub(x, 2))", in, "1;1;1;1;1;1"}, {"swap(0 fby x, x)", in, "1;1;1;1;1;1"},
	})
	hold(t, "node not1(a: bool) returns (b: bool); let b = not a; tel node f(a: bool) returns (b, p: bool); let b = not1(a); p = not1(true fby not1(p)); tel", "0;1;0", "1 0;0 0;1 0")
	// An own one for each place, in each instance: two nodes that call one, each twice.
	hold(t, sum+"node a(x: int) returns (y: int); let y = sum(x) + sum(10 * x); tel node b(x: int) returns (y: int); let y = a(x) - 100 * a(x * 2); tel node f(x: int; c: bool) returns (y, z: int); let y = b(x); z = merge c a(x when c) (0); tel",
		"1 0;2 1;3 0;4 1", "-2189 0;-6567 22;-13134 0;-21890 66")
	// What a called node keeps beneath its own whens, while the call ticks at some ticks alone.
	hold(t, "node g(k: bool; v: int) returns (o: int); let o = merge k ((0 fby v) when k) (9); tel node f(c, k: bool; v: int) returns (y: int); let y = merge c g(k when c, v when c) (7); tel",
		"1 1 1;0 1 2;1 0 3;1 1 4;0 0 5;1 1 6", "0;7;9;3;7;4")
	// Locals that are late, and steps that are outputs, in nodes that are called.
	hold(t, "node g(a: int) returns (y: int); var p, q: int; let q = 2 * p; p = pre a; y = 0 -> q; tel "+one("g(x) + g(g(x))"), in, "0;2;8;14;20;26")
	hold(t, "node g(a: int) returns (o: bool); var p: int when o; q: int; let p = 1 fby (p + 1); o = false fby not o; q = merge o (p) (a when not o); tel "+one("if g(x) then 1 else 0"), in, "0;1;0;1;0;1")
}
