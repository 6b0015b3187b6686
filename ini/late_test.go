package ini_test

import (
	"slices"
	"strings"
	"testing"

	"escapement/api"
	"escapement/clk"
	"escapement/ini"
	"escapement/names"
	"escapement/syn"
	"escapement/typ"
)

// isFit tells whether the layers ahead have no fault of a program.
func isFit(l []syn.Node) bool {
	return names.Check(l).Err == api.OK && typ.Check(l).Err == api.OK && clk.Check(l).Err == api.OK
}

// parse reads a program that no layer ahead has a fault of.
func parse(t *testing.T, promise, text string) []syn.Node {
	t.Helper()
	l, f := syn.Parse(text)
	if f.Err != api.OK || !isFit(l) {
		t.Fatalf("%s: %q is no program: %v at %d", promise, text, f.Err, f.At)
	}
	return l
}

// declares has late names, some by way of others that stand behind them, and names that aren't late, each of them without
// a fault; a node has a late name's name.
const declares = "node g(a, b: int) returns (y: int); let y = a + b; tel node k() returns (y: bool); let y = true; tel " +
	"node l(a: int) returns (y: int); var x: int; let x = pre a; y = 0 -> x; tel " +
	"node f(x: int; c: bool) returns (y: int; z, o: bool); " +
	"var n, m, l, s, t, u: int; w, k, b: bool; i, j: int; p, r: int when c; v, q: int when not c; d: bool when b; e: bool when not z; " +
	"let n = if c then m else x; d = k when b; w = not k; m = l + 1; l = pre x; k = pre c; s = x - 1; t = 0 -> pre t + l; u = 0 fby u + 1; b = c; i = j + 1; j = if c then i else x; " +
	"p = l when c; r = x when c; v = pre (x when not c); q = merge c 1 2 when not c; e = 1 > pre 2; z = c; o = k() or b; y = "

// late are the late names of what declares has.
var late = []string{"n", "m", "l", "w", "k", "p", "v", "d", "e"}

// program is what declares has, with that as y's expression.
func program(t *testing.T, promise, e string) syn.Node {
	t.Helper()
	return parse(t, promise, declares+e+"; tel")[3]
}

// lastExpr is the expression that a program was asked for.
func lastExpr(n syn.Node) syn.Expr { return n.Eqs[len(n.Eqs)-1].E }

// holdLate holds a node's late names, and that Expr tells each of its names so.
func holdLate(t *testing.T, n syn.Node, want ...string) {
	t.Helper()
	if l := ini.Late(n); !slices.Equal(l, want) {
		t.Errorf("P9.1: Late of\n%s: %q, want %q", syn.Show([]syn.Node{n}), l, want)
	}
	for _, v := range slices.Concat(n.In, n.Out, n.Locals) {
		e := syn.Expr{Op: "var", Name: v.Name}
		if got := ini.Expr(n, e); got != slices.Contains(want, v.Name) {
			t.Errorf("P9.1: Expr(%s) in\n%s: %v", v.Name, syn.Show([]syn.Node{n}), got)
		}
	}
}

// P9.1: the late names in the order in which they are declared, outputs ahead of locals, whatever the equations' order is.
func TestLateNames(t *testing.T) {
	holdLate(t, program(t, "P9.1", "x"), late...)
	holdLate(t, program(t, "P9.1", "- m"), append([]string{"y"}, late...)...)
	holdLate(t, syn.Node{})
	for _, c := range []struct{ decls, eqs, want string }{
		{"returns (y: int);", "y = 1;", ""},
		{"returns (y: int);", "y = x;", ""},
		{"returns (y: int);", "y = pre x;", "y"},
		{"returns (y: int);", "y = pre y;", "y"},
		{"returns (y: int);", "y = pre pre x;", "y"},
		{"returns (y: int);", "y = 0 -> pre x;", ""},
		{"returns (y: int);", "y = pre x -> 0;", ""},
		{"returns (y: int);", "y = pre (0 -> x);", "y"},
		{"returns (y, z: int);", "z = pre x; y = z;", "y z"},
		{"returns (z, y: int);", "z = pre x; y = z;", "z y"},
		{"returns (y: int); var b, a: int;", "a = pre x; b = x; y = a;", "y a"},
		{"returns (y: int); var c, b, a: int;", "a = pre x; b = a; c = b; y = 0 -> c;", "c b a"},
		{"returns (y: int); var a, b, c: int;", "a = pre x; b = a; c = b; y = c;", "y a b c"},
		{"returns (y, z: int); var a: int;", "z = a; a = pre x; y = 0;", "z a"},
	} {
		n := parse(t, "P9.1", "node f(x: int) "+c.decls+" let "+c.eqs+" tel")[0]
		holdLate(t, n, strings.Fields(c.want)...)
	}
}

// P9.1: the least set: names that hang on one another alone are not late; with a pre among them all behind it are.
func TestLateIsTheLeastSet(t *testing.T) {
	for _, c := range []struct{ eqs, want string }{
		{"y = y; a = a; b = b + a;", ""},
		{"y = a; a = y; b = b;", ""},
		{"y = a; a = b + 1; b = if x = 1 then y else x;", ""},
		{"y = y + pre x; a = a; b = b;", "y"},
		{"y = y; a = a + pre x; b = a + b;", "a b"},
		{"y = a; a = b; b = a - pre b;", "y a b"},
		{"y = b; a = y; b = if x = 1 then a else pre x;", "y a b"},
		{"y = b; a = 0 -> y; b = if x = 1 then a else pre x;", "y b"},
		{"y = 1 fby b; a = y; b = if x = 1 then a else pre x;", "b"},
	} {
		holdLate(t, parse(t, "P9.1", "node f(x: int) returns (y: int); var a, b: int; let "+c.eqs+" tel")[0], strings.Fields(c.want)...)
	}
}

// P9.1: what is late hangs on the node alone: not on names elsewhere, nor on what a called node does.
func TestLateOfNodes(t *testing.T) {
	l := parse(t, "P9.1", "node f(a: int) returns (y: int); var b: int; let b = pre a; y = 0 -> b; tel "+
		"node g(b: int) returns (y: int); var a: int; let y = b; a = f(b); tel "+
		"node h(x: int) returns (y, a, b: int); let y = pre a; a = g(y); b = f(x) + pre x; tel")
	holdLate(t, l[0], "b")
	holdLate(t, l[1])
	holdLate(t, l[2], "y", "b")
}

// passing are the Ops that are late if a kid is, each with how many kids it has.
var passing = map[string]int{
	"not": 1, "neg": 1, "when": 1, "+": 2, "-": 2, "*": 2, "/": 2, "mod": 2, "=": 2, "<>": 2, "<": 2, "<=": 2, ">": 2, ">=": 2, "and": 2, "or": 2, "xor": 2, "if": 3,
}

// never are the Ops that are not late, whatever their kids are.
var never = map[string]int{"->": 2, "fby": 2, "merge": 2, "call": 3, "int": 0, "bool": 0}

// lateTexts and earlyTexts have no fault; the first are late.
var (
	lateTexts  = []string{"l", "n", "pre x", "pre (0 -> l)", "- l", "x + m", "m + x", "if c then l else x", "if k then 1 else 2", "if c then x else - l", "l when c", "1 when c + p"}
	earlyTexts = []string{"1", "x", "y", "s", "t", "i", "0 -> l", "0 -> pre x", "1 fby x", "g(1, x)", "l(x)", "merge c 1 2", "merge c (r) (q)", "r", "x when c", "x + (0 -> l)", "- (x -> n)"}
)

// exprs reads texts.
func exprs(t *testing.T, l []string) []syn.Expr {
	t.Helper()
	var all []syn.Expr
	for _, text := range l {
		e := "0 -> (" + text + ")"
		if n, f := syn.Parse(declares + e + "; tel"); f.Err == api.OK {
			all = append(all, lastExpr(n[3]).Kids[1])
		} else {
			t.Fatalf("P9.1: %q is no expression: %v at %d", text, f.Err, f.At)
		}
	}
	return all
}

// kidRows calls with all rows of so many kids, and for each kid whether it is late.
func kidRows(t *testing.T, count int, do func(kids []syn.Expr, late []bool)) {
	t.Helper()
	lates, earlies := exprs(t, lateTexts), exprs(t, earlyTexts)
	all := append(slices.Clone(lates), earlies...)
	if count > 2 {
		all, lates = append(slices.Clone(lates[:4]), earlies[:6]...), lates[:4]
	}
	var row func(kids []syn.Expr, late []bool)
	row = func(kids []syn.Expr, late []bool) {
		if len(kids) == count {
			do(kids, late)
			return
		}
		for k, e := range all {
			row(append(slices.Clone(kids), e), append(slices.Clone(late), k < len(lates)))
		}
	}
	row(nil, nil)
}

// P9.1: each Op with kids that are late and that aren't.
func TestExprOfEachOp(t *testing.T) {
	n := program(t, "P9.1", "x")
	for k, e := range append(exprs(t, lateTexts), exprs(t, earlyTexts)...) {
		if got := ini.Expr(n, e); got != (k < len(lateTexts)) {
			t.Errorf("P9.1: Expr(%s): %v", syn.Text(e), got)
		}
	}
	hold := func(op string, count int, want func(late []bool) bool) {
		for _, name := range []string{"c", "k"} {
			kidRows(t, count, func(kids []syn.Expr, late []bool) {
				e := syn.Expr{Op: op, Name: name, Kids: kids}
				if got := ini.Expr(n, e); got != want(late) {
					t.Errorf("P9.1: Expr(%s): %v", syn.Text(e), got)
				}
			})
		}
	}
	for op, count := range passing {
		hold(op, count, func(late []bool) bool { return slices.Contains(late, true) })
	}
	for op, count := range never {
		hold(op, count, func([]bool) bool { return false })
	}
	hold("pre", 1, func([]bool) bool { return true })
}

// P9.1: expressions of several parts, as they are written; those that have a fault, too.
func TestExprOfTexts(t *testing.T) {
	for text, want := range map[string]bool{
		"1": false, "- 1 + 2": false, "x": false, "y": false, "l": true, "pre 1": true, "0 -> pre 1": false, "1 + pre 1": true, "pre 1 + 1": true, "pre l": true, "pre pre l": true,
		"- - - l": true, "- (x * (2 - n))": true, "- (x * (2 - t))": false, "if k then 1 else 2": true, "if not (c and (w xor c)) then 1 else 2": true, "if x < 1 or c then 1 else 2": false, "if 1 <= l then 1 else 2": true,
		"if c then if c then x else m else x": true, "if c then if c then x else s else x": false, "if c then 0 -> l else 1 fby l": false, "g(l, l)": false, "g(pre x, 1) + x": false, "g(1, 1) + l": true, "if k() then 1 else 2": false,
		"l(l)": false, "l(1)": false, "l(1) + l": true, "l -> l": false, "l -> 0": false, "0 -> l -> l": false, "(0 -> x) + pre x": true, "l fby l": false, "x fby x fby l": false, "merge k 1 2": false, "merge c (p) (v)": false, "merge c (pre r) 1": false,
		"merge c (p) (q) + l": true, "merge c (p) (q) + 1": false, "0 fby pre x": false, "l / 0": true, "0 mod l": true, "y + l": true, "y + s": false,
	} {
		n := program(t, "P9.1", text)
		if got := ini.Expr(n, lastExpr(n)); got != want {
			t.Errorf("P9.1: Expr(%s): %v", text, got)
		}
	}
}

// P9.1: a when and a merge are not late by their name alone.
func TestExprOfLateSteps(t *testing.T) {
	n := program(t, "P9.1", "0 -> merge k (1 when k) (2 when not k)")
	e := lastExpr(n).Kids[1]
	for _, e := range append(slices.Clone(e.Kids), e) {
		if ini.Expr(n, e) {
			t.Errorf("P9.1: Expr(%s) is late", syn.Text(e))
		}
	}
}

// P9.1: an expression that stands nowhere in the node is asked as one that does.
func TestExprFromElsewhere(t *testing.T) {
	n := program(t, "P9.1", "x")
	l := syn.Expr{Op: "var", Name: "l", At: -7}
	for _, c := range []struct {
		e    syn.Expr
		want bool
	}{
		{syn.Expr{}, false}, {syn.Expr{Op: "what", Kids: []syn.Expr{l}}, false}, {syn.Expr{Op: "Pre", Kids: []syn.Expr{l}}, false}, {syn.Expr{Op: "call", Name: "l"}, false}, {syn.Expr{Op: "int", Name: "l"}, false},
		{l, true}, {syn.Expr{Op: "var", Name: "nobody"}, false}, {syn.Expr{Op: "var"}, false}, {syn.Expr{Op: "pre"}, true}, {syn.Expr{Op: "neg"}, false}, {syn.Expr{Op: "neg", Kids: []syn.Expr{l, {}}}, true}, {syn.Expr{Op: "->", Kids: []syn.Expr{l}}, false},
	} {
		if got := ini.Expr(n, c.e); got != c.want {
			t.Errorf("P9.1: Expr(%+v): %v", c.e, got)
		}
	}
	if ini.Expr(syn.Node{}, l) || !ini.Expr(syn.Node{}, syn.Expr{Op: "pre", Kids: []syn.Expr{l}}) {
		t.Errorf("P9.1: Expr in the zero Node")
	}
}

// P9.1, R1: in a node that names has a fault of, an input is not late, and a name's first equation counts.
func TestLateOfFaultyNames(t *testing.T) {
	pre := syn.Expr{Op: "pre", Kids: []syn.Expr{{Op: "int"}}}
	one := syn.Expr{Op: "int", N: 1}
	n := syn.Node{
		In:     []syn.Var{{Name: "x"}},
		Out:    []syn.Var{{Name: "y"}, {Name: "z"}, {Name: "w"}},
		Locals: []syn.Var{{Name: "a"}},
		Eqs:    []syn.Eq{{Name: "x", E: pre}, {Name: "y", E: pre}, {Name: "y", E: one}, {Name: "z", E: one}, {Name: "z", E: pre}, {Name: "nobody", E: pre}, {Name: "a", E: syn.Expr{Op: "var", Name: "x"}}},
	}
	holdLate(t, n, "y")
	n = syn.Node{Locals: []syn.Var{{Name: ""}, {Name: "a"}}, Eqs: []syn.Eq{{E: pre}, {Name: "a", E: pre}}}
	holdLate(t, n, "", "a")
	if f := ini.Check([]syn.Node{n}); f != (api.Fault{}) {
		t.Errorf("P9.2: Check of a local without a name, where none has an On: %v at %d", f.Err, f.At)
	}
}
