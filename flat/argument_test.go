package flat_test

import (
	"strings"
	"testing"

	"escapement/syn"
)

// P13.1: names that are alike in the nodes, and those of nodes, are not taken for one another.
func TestNamesAlike(t *testing.T) {
	hold(t, "node y(y: int) returns (f: int); let f = y * 2; tel node f(x: int) returns (y: int); let y = y(x) + 1; tel", "1;2", "3;5")
	hold(t, "node g(y: int) returns (x: int); let x = y + 1; tel node f(x: int) returns (y: int); let y = g(x) * 10; tel", "1;2", "20;30")
	hold(t, "node g(b, a: int) returns (x: int); var y: int; let x = y - b; y = a; tel node f(a, b: int) returns (x, y: int); let y = g(a, b); x = g(b, a); tel", "1 5;2 3", "-4 4;-1 1")
	hold(t, "node g(a: int; b: bool) returns (x: int); var c: int when b; let c = a when b; x = merge b (c) (0); tel node f(b: int; a: bool) returns (c: int); var x: bool when a; y: int when x; let x = true; y = g((b when a) when x, a when a when x); c = merge a (merge x (y) 1) 2; tel", "7 1;8 0;9 1", "7;2;9")
	// One that was called already, with names of one that calls it.
	hold(t, "node a(x: int) returns (y: int); let y = x + 1; tel node b(y: int) returns (x: int); let x = a(a(y) * 2); tel node c(x: int) returns (y: int); let y = b(a(x)) - a(b(x)); tel", "1;2;3", "1;1;1")
	// So many that the numbers of the first ones are beginnings of the later ones' numbers.
	ahead := "node n() returns (y: int); let y = 1 fby (y + 1); tel node g(a, b: int) returns (y: int); var n: int; let n = n(); y = a * n + b; tel "
	hold(t, ahead+"node f(x: int) returns (y, n: int); let n = 0"+strings.Repeat(" + g(x, n())", 36)+"; y = 0"+strings.Repeat(" + g(x + 1, 0 - n())", 36)+"; tel", "5;6;7", "180 216;432 504;756 864")
}

// inputs is a node whose inputs stand in each place in which one may stand, with states of all sorts.
const inputs = "node g(a: int; b: bool) returns (y: int); var p: int when b; q: int when not b; r: bool when b; u: int; s: int when not r; v: bool; " +
	"let p = a when b -> pre p + a when b; q = 3 fby (a when not b); u = pre a; r = b when b; s = (0 fby a) when b when not r; v = not b; y = (merge b (p + merge r 1 (s)) (q)) + (0 -> u) * (if b and v then a else - a) + (a fby a -> pre a); tel "

// P13.1: what may be an argument: a name of any sort, an int, a bool, anything with a state, and calls; on any clock.
func TestArguments(t *testing.T) {
	ints := []string{"x", "y0", "w", "5", "- 5", "x + 1", "0 -> pre x", "7 fby x", "1 -> 2", "sum(x)", "count()", "sum(3)", "g(x, d)", "merge d 1 2", "if d then x else w", "merge d (0 -> pre (x when d)) (w when not d)"}
	bools := []string{"d", "k", "o", "true", "false", "not d", "true -> false", "false fby d", "x > 3", "count() > 2", "odd(x)", "odd(count())", "true fby (false fby d)", "merge d true odd(x when not d)"}
	in := rows("1 0 0;2 1 0;3 1 1;4 0 1;-5 1 0;6 1 1;7 0 1;8 0 0;9 1 0")
	ahead := sum + inputs + "node odd(x: int) returns (b: bool); let b = x mod 2 = 1; tel "
	for _, place := range []string{"g(@, #)", "merge c (g(@, #) when c) (0)", "merge c (g((@) when c, (#) when c)) (1)", "merge e 2 (merge n (g(((@) when not e) when n, ((#) when not e) when n)) (0))"} {
		for _, a := range ints {
			for _, b := range bools {
				e := strings.NewReplacer("@", a, "#", b).Replace(place)
				text := ahead + "node f(x: int; c, d: bool) returns (y, y0: int; o: bool); var w: int; k, e: bool; n: bool when not e; let w = x * 3; e = c xor d; k = d and c; o = d or c; y0 = 1 fby (y0 + 2); n = (true fby not c) when not e; y = " + e + "; tel"
				holdMeans(t, program(t, text), in)
			}
		}
	}
}

// P13.1: what has a state has it once, though the node asks for it twice, at some ticks, at the tick ahead or never.
func TestStatesOfArguments(t *testing.T) {
	const in = "1 0;2 1;3 0;4 1;5 1;6 0"
	uses := "node twice(a: int) returns (y: int); let y = a + 10 * a; tel node never(a: int) returns (y: int); let y = 4; tel node ahead(a: int) returns (y: int); let y = 0 fby a; tel " +
		"node some(a: int; k: bool) returns (y: int); let y = merge k (a when k) (0 - 1); tel node both(a: int; k: bool) returns (y: int); let y = merge k (a when k) (- a when not k); tel node late(a: int) returns (y: int); var l: int; let l = pre a; y = 0 -> l + a; tel "
	holdAll(t, sum+uses, []meaning{
		{"twice(sum(x))", in, "11;33;66;110;165;231"}, {"twice(0 fby (twice(count())))", in, "0;121;242;363;484;605"}, {"never(sum(x))", in, "4;4;4;4;4;4"}, {"never(never(x))", in, "4;4;4;4;4;4"}, {"ahead(count())", in, "0;1;2;3;4;5"}, {"ahead(ahead(x))", in, "0;0;1;2;3;4"},
		{"some(count(), c)", in, "-1;2;-1;4;5;-1"}, {"both(count(), c)", in, "-1;2;-3;4;5;-6"}, {"merge c (some(count(), true -> false)) (0)", in, "0;1;0;-1;-1;0"}, {"merge c (some(count(), true -> false) when c) (0)", in, "0;-1;0;-1;-1;0"}, {"late(count())", in, "0;3;5;7;9;11"}, {"late(late(x))", in, "0;3;8;12;16;20"},
		{"merge c (late(count())) (late(x when not c))", in, "0;0;4;3;5;9"}, {"twice(if c then count() else - count())", in, "-11;22;-33;44;55;-66"},
	})
}

// P13.1: values that hang on themselves by way of calls, but of the tick ahead, hang on themselves at no one tick.
func TestLeaningByWayOfCalls(t *testing.T) {
	const in = "1 0;2 1;3 0;4 1;5 1;6 0"
	ahead := sum + "node old(a, b: int) returns (y: int); let y = b fby a; tel node step(a: int; k: bool) returns (y: int); var w: int when k; let w = a when k; y = merge k (w) (0); tel "
	holdAll(t, ahead, []meaning{
		{"0 fby old(y + x, 1)", in, "0;1;1;3;4;7"}, {"0 -> pre old(sum(y + x), y)", in, "0;0;1;3;7;14"}, {"sum(0 fby old(y, 2))", in, "0;2;2;4;6;10"}, {"0 fby step(y + 1, c)", in, "0;0;1;0;1;2"}, {"0 fby merge c (step(y when c + 1, true -> c when c)) (y when not c)", in, "0;0;1;1;2;3"},
		{"0 fby step(x, y > 1)", in, "0;0;0;0;0;0"}, {"9 fby step(x, y > 1)", in, "9;1;0;0;0;0"}, {"step(x, 0 fby y < 3)", in, "1;2;3;0;5;0"},
	})
	// A clock that hangs on who has the call beneath what keeps it.
	hold(t, ahead+many("n: bool;", "n = y > 2; y = 3 fby (merge n (old(y when n, 5)) (step(y when not n, d when not n) + 1));"), "0 0 0;0 0 1;0 1 0;0 0 1;0 0 1", "3;5;3;5;3")
	hold(t, ahead+many("a, b: int; n: bool; m: int when n;", "m = old(a when n, 1); a = x + (0 fby b); b = step(a, n) + sum(a); n = (0 fby a) < 10; y = merge n (m) (b when not n);"), "1 0 0;2 0 0;3 0 0;4 0 0;5 0 0;6 0 0", "1;1;4;50;105;216")
}

// P13.1: an input is the name that stands for it: then it has no equation of its own.
func TestNamesAreNotMadeAnew(t *testing.T) {
	l := program(t, "node id(a: int) returns (b: int); let b = a; tel node f(x: int; d: bool) returns (y, y0: int); var e: int when d; "+
		"let e = id(id(x when d)); y = id(x) + id(id(y0)) + merge d id(e) (id(0)); y0 = id(id(id(x))); tel")
	// Three of its own; one of each of the ten calls; x when d, and 0.
	if n := holdFlat(t, l); len(n.Eqs) != 15 || len(n.Locals) != 13 {
		t.Errorf("P13.1: Flat has %d equations: %s", len(n.Eqs), syn.Show([]syn.Node{n}))
	}
}

// R4: kids that are alike in a tree are none of one list in what is told.
func TestNothingIsShared(t *testing.T) {
	l := program(t, inputs+one("g(x + 1, c) + g(x, c)"))
	kids := []syn.Expr{{Op: "var", Name: "x"}, {Op: "int", N: 7}}
	both := syn.Expr{Op: "+", Kids: kids}
	l[1].Eqs[0].E = syn.Expr{Op: "*", Kids: []syn.Expr{{Op: "call", Name: "g", Kids: []syn.Expr{both, {Op: "var", Name: "c"}}}, both}}
	n := holdFlat(t, l)
	holdApart(t, "shared kids", append(places([]syn.Node{n}), places([]syn.Node{l[0]})...))
	holdApart(t, "shared kids", append(places([]syn.Node{n}), places([]syn.Node{holdFlat(t, l)})...))
}
