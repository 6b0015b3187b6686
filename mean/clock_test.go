package mean_test

import "testing"

// P12.1: when: its kid's value, at the ticks at which its name is so; merge: by its name, a where it is true.
func TestWhenAndMerge(t *testing.T) {
	holdAll(t, "", []meaning{
		{"merge c 1 2", "0 1;0 0", "1;2"}, {"merge c (x when c) (- x when not c)", "5 1;6 0;7 0;8 1", "5;-6;-7;8"}, {"merge c (x when c + 1) 0", "5 1;6 0", "6;0"}, {"merge c 0 (x when not c * 2)", "5 1;6 0", "0;12"},
		{"(merge c (x when c) (1)) + merge c (2) (x when not c)", "5 1;6 0", "7;7"}, {"merge c (merge c 1 2 when c) 3", "5 1;6 0", "1;3"}, {"merge c (if c when c then 1 else 2) (if c when not c then 3 else 4)", "5 1;6 0", "1;4"},
	})
	hold(t, "node f(a, b: bool) returns (y: bool); let y = merge a (b when a) (not b when not a); tel", "0 0;0 1;1 0;1 1", "1;0;0;1")
	hold(t, many(";", "y = merge c (merge d (x when d) (- x when not d) when c) (merge d ((x + 1) when d) (2 + x when not d) when not c);"), "5 0 0;5 0 1;5 1 0;5 1 1", "7;6;-5;5")
}

// P12.1: what stands on a clock knows its ticks alone: the first of them, and the one ahead of each.
func TestTicksOfClocks(t *testing.T) {
	const in = "1 0;2 1;3 0;4 1;5 1;6 0"
	holdAll(t, "", []meaning{
		{"merge c (0 -> pre (x when c)) (- 1)", in, "-1;0;-1;2;4;-1"}, {"merge c (x when c fby x when c) (- 1)", in, "-1;2;-1;2;4;-1"}, {"merge c (9 fby (x when c)) (- 1)", in, "-1;9;-1;2;4;-1"}, {"merge c (x when c -> 7) (- 1)", in, "-1;2;-1;7;7;-1"},
		{"merge c (- 1) (0 -> pre (x when not c))", in, "0;-1;1;-1;-1;3"}, {"merge c (- 1) (9 fby 8 fby (x when not c))", in, "9;-1;8;-1;-1;1"}, {"merge c (- 1) (x when not c -> 7)", in, "1;-1;7;-1;-1;7"},
		{"merge c (0 -> pre (x when c)) (100 -> pre (x when not c))", in, "100;0;1;2;4;3"},
	})
}

// P12.1: what stands beneath a when ticks at the ticks of its name's clock, at those too at which the name is not so.
func TestTicksBeneathWhen(t *testing.T) {
	const in = "1 0;2 1;3 0;4 1;5 1;6 0"
	holdAll(t, "", []meaning{
		{"merge c ((0 -> pre x) when c) (- 1)", in, "-1;1;-1;3;4;-1"}, {"merge c ((9 fby x) when c) (- 1)", in, "-1;1;-1;3;4;-1"}, {"merge c ((9 -> x) when c) (- 1)", in, "-1;2;-1;4;5;-1"}, {"merge c (- 1) ((9 -> pre x) when not c)", in, "9;-1;2;-1;-1;5"},
		{"merge c (0 -> pre ((0 -> pre x) when c)) (- 1)", in, "-1;0;-1;1;3;-1"}, {"merge c (0 fby ((0 fby x) when c)) (- 1)", in, "-1;0;-1;1;3;-1"}, {"merge c (((0 fby x) when c) fby 5) (- 1)", in, "-1;1;-1;5;5;-1"},
		{"0 fby (merge c ((0 fby x) when c) (- 1))", in, "0;-1;1;-1;3;4"}, {"merge c (- ((0 fby x) when c) + 1) (if (false fby c) when not c then 1 else 0)", in, "0;0;1;-2;-3;1"},
	})
	// A step within a step: beneath the inner when it is the outer one's ticks, beneath both it is all.
	const ins = "1 0 0;2 1 0;3 1 1;4 0 1;5 1 0;6 1 1;7 1 1"
	for e, want := range map[string]string{
		"merge c (merge e ((9 fby (x when c)) when e) (0)) 1":             "1;0;2;1;0;5;6",
		"merge c (merge e (((9 fby x) when c) when e) (0)) 1":             "1;0;2;1;0;5;6",
		"merge c (merge e (9 fby ((x when c) when e)) (0)) 1":             "1;0;9;1;0;3;6",
		"merge c (merge e (0) ((9 fby (x when c)) when not e)) 1":         "1;9;0;1;3;0;0",
		"merge c (merge e (0) (((9 fby x) when c) when not e)) 1":         "1;1;0;1;4;0;0",
		"merge c (merge e (8 fby ((9 fby (x when c)) when e)) (0)) 1":     "1;0;8;1;0;2;5",
		"merge c (7 fby merge e ((9 fby (x when c)) when e) (- (1))) (1)": "1;7;-1;1;2;-1;5",
	} {
		hold(t, many("e: bool when c;", "e = d when c; y = "+e+";"), ins, want)
	}
}

// P12.1: locals have a value at the ticks of their clocks, and so do locals on these.
func TestLocalsOnClocks(t *testing.T) {
	hold(t, many("a: int when c; b: int when not c;", "y = merge c a b; a = 0 fby (a + 1); b = 100 -> pre b + 1;"), "0 1 0;0 0 0;0 1 0;0 0 0;0 1 0", "0;100;1;101;2")
	hold(t, many("a: int when c;", "a = 1 -> 2; y = merge c (0 fby a) (3);"), "0 1 0;0 0 0;0 1 0;0 1 0", "0;3;1;2")
	hold(t, many("a: int when c;", "a = (0 fby (y + x)) when c; y = merge c (a) (3);"), "1 1 0;2 0 0;3 1 0;4 1 0;5 0 0;6 1 0", "0;3;5;8;3;8")
	hold(t, many("e: bool when c; q: int when e; r: int when not e; s: int when c;", "e = (x > 0) when c; q = 0 -> pre q + 1; r = 0 -> pre r - 1; s = merge e q r; y = merge c (s) (50);"), "1 1 0;1 0 0;0 1 0;2 1 0;0 1 0;0 0 0;3 1 0", "0;50;0;1;-1;50;2")
	// An output may be a step's name, and a step's name may hang on what was.
	hold(t, "node f(x: int) returns (o: bool; y: int); var a: int when o; let o = false fby not o; a = x when o; y = merge o (a) (0); tel", "1;2;3;4", "0 0;1 2;0 0;1 4")
	hold(t, "node f(x: int) returns (o: bool; y: int); var a: int when not o; let y = merge o (x when o) (a); a = 7 fby (x when not o); o = 3 < x; tel", "1;2;5;3", "0 7;0 1;1 5;0 2")
	hold(t, many("k: bool; a: int when not k;", "k = false fby (y > 2); a = x when not k; y = merge k (0) (a);"), "1 0 0;3 0 0;4 0 0;5 0 0", "1;3;0;5")
	// Four steps, each on the one ahead.
	hold(t, "node f(a, b: bool) returns (y: int); var p: bool when a; q: bool when not p; r: bool when q; s: int when not r; "+
		"let s = 1 fby (s + 1); r = true fby not r; q = not b when a when not p; p = (b when a) and (false fby p); y = merge a (merge p 10 (merge q (merge r 20 s) 30)) 40; tel",
		"0 0;1 1;1 0;1 0;1 0;1 1;1 0;0 0;1 0", "40;30;20;1;20;30;2;40;20")
}

// P12.1: what may be there whenever it is wanted is there at the ticks of what it stands in.
func TestAnyClock(t *testing.T) {
	const in = "1 0;2 1;3 0;4 1;5 1;6 0"
	holdAll(t, "", []meaning{
		{"1 -> 2", in, "1;2;2;2;2;2"}, {"merge c (1 -> 2) (3 -> 4)", in, "3;1;4;2;2;4"}, {"merge c (1 fby 2 fby 3) (4 fby 5)", in, "4;1;5;2;3;5"}, {"merge c ((1 fby 2 fby 3 fby 4) when c) (0)", in, "0;2;0;4;4;0"},
		{"merge c (x when c + (1 -> 2)) (0)", in, "0;3;0;6;7;0"}, {"merge c (x when c + ((1 fby 2 fby 3 fby 4) when c)) (0)", in, "0;4;0;8;9;0"}, {"x + (1 -> 2)", in, "2;4;5;6;7;8"}, {"(1 -> 2) + x", in, "2;4;5;6;7;8"},
		{"if c then 1 -> 2 else 3", in, "3;2;3;2;2;3"}, {"merge c (if (true -> false) then 1 else 2) (0)", in, "0;1;0;2;2;0"}, {"merge c (- (1 -> 2)) (0)", in, "0;-1;0;-2;-2;0"}, {"merge c (0 -> pre (1 -> 2)) (0)", in, "0;0;0;1;2;0"},
		{"merge c ((1 -> 2) -> pre (3 -> 4)) (0)", in, "0;1;0;3;4;0"}, {"0 fby merge c (1 -> 2) (3)", in, "0;3;1;3;2;2"}, {"(merge c (1 -> 2) (3)) * (1 -> 10)", in, "3;10;30;20;20;30"},
	})
	hold(t, many("a: int when c; b: int when not c; e: int;", "a = 1 -> 2; b = (3 fby 4 fby 5) when not c; e = 6 -> 7; y = 10 * e + merge c (a) (b);"), "0 0 0;0 1 0;0 0 0;0 1 0", "63;71;75;72")
	hold(t, many("e: bool when c; a: int when e;", "e = true fby not e; a = 1 fby 2 fby 3; y = merge c (merge e (a) (4 fby 5)) 6;"), "0 1 0;0 0 0;0 1 0;0 1 0;0 1 0;0 1 0", "1;6;4;2;5;3")
}

// sum adds up, and count counts.
const sum = "node sum(a: int) returns (s: int); let s = a + (0 fby s); tel node count() returns (n: int); let n = 1 fby (n + 1); tel "

// P12.1: a call is the output of a node of its own, which ticks at the ticks of the call's clock.
func TestCalls(t *testing.T) {
	const in = "1 0;2 1;3 0;4 1;5 1;6 0"
	holdAll(t, sum, []meaning{
		{"sum(x)", in, "1;3;6;10;15;21"}, {"sum(x) + sum(x)", in, "2;6;12;20;30;42"}, {"sum(x) + sum(x * 10)", in, "11;33;66;110;165;231"}, {"sum(sum(x))", in, "1;4;10;20;35;56"}, {"sum(sum(sum(1)))", in, "1;4;10;20;35;56"}, {"count()", in, "1;2;3;4;5;6"},
		{"count() * 10 + count()", in, "11;22;33;44;55;66"}, {"0 -> pre sum(x)", in, "0;1;3;6;10;15"}, {"sum(0 -> pre x)", in, "0;1;3;6;10;15"}, {"0 fby sum(y + 1)", in, "0;1;3;7;15;31"}, {"if c then sum(x) else 0", in, "0;3;0;10;15;0"}, {"sum(if c then x else 0)", in, "0;2;2;6;11;11"},
		{"merge c sum(x when c) sum(x when not c)", in, "1;2;4;6;11;10"}, {"merge c (sum(x) when c) (0)", in, "0;3;0;10;15;0"}, {"merge c sum(1) (sum(1) when not c)", in, "1;1;3;2;3;6"}, {"merge c count() (count() when not c)", in, "1;1;3;2;3;6"},
		{"merge c (sum(x) when c + sum(x when c)) (0)", in, "0;5;0;16;26;0"}, {"merge c sum(sum(x) when c) (0)", in, "0;3;0;13;28;0"}, {"merge c sum(count()) count()", in, "1;1;2;3;6;3"}, {"merge c (sum(count()) when c) count()", in, "1;3;2;10;15;3"},
		{"merge c (0 fby sum(x when c)) (0)", in, "0;0;0;2;6;0"}, {"merge c (0 fby (sum(x) when c)) (0)", in, "0;0;0;3;10;0"}, {"sum(merge c (count()) (0))", in, "0;1;1;3;6;6"}, {"count() -> 0", in, "1;0;0;0;0;0"}, {"0 -> count()", in, "0;2;3;4;5;6"},
	})
}

// P12.1: the node that is called has its own names, clocks and ticks: its first one is the call's first one.
func TestCalledNodes(t *testing.T) {
	const in = "1 0;2 1;3 0;4 1;5 1;6 0"
	holdAll(t, "node hold(x: int; c: bool) returns (o: int); var y: int when c; let o = merge c (y) ((0 fby o) when not c); y = x when c; tel ", []meaning{
		{"hold(x, c)", in, "0;2;2;4;5;5"}, {"hold(x, not c)", in, "1;1;3;3;3;6"}, {"hold(0 - x, true)", in, "-1;-2;-3;-4;-5;-6"}, {"hold(x, false)", in, "0;0;0;0;0;0"}, {"merge c hold(x when c, true -> false) (0)", in, "0;2;0;2;2;0"}, {"merge c (hold(x, true -> false) when c) (0)", in, "0;1;0;1;1;0"},
		{"hold(hold(x, c), not c)", in, "0;0;2;2;2;5"}, {"hold(x, hold(x, c) > 3)", in, "0;0;0;4;5;6"},
	})
	holdAll(t, "node sub(a, b: int) returns (a1: int); let a1 = a - b; tel node swap(a, b: int) returns (y: int); let y = sub(b, a); tel ", []meaning{
		{"sub(x, 1)", in, "0;1;2;3;4;5"}, {"swap(x, 1)", in, "0;-1;-2;-3;-4;-5"}, {"sub(swap(1, x), sub(x, 2))", in, "1;1;1;1;1;1"}, {"swap(0 fby x, x)", in, "1;1;1;1;1;1"},
	})
	hold(t, "node not1(a: bool) returns (b: bool); let b = not a; tel node f(a: bool) returns (b, p: bool); let b = not1(a); p = not1(true fby not1(p)); tel", "0;1;0", "1 0;0 0;1 0")
	// One name in all nodes.
	hold(t, "node y(y: int) returns (f: int); let f = y * 2; tel node f(x: int) returns (y: int); let y = y(x) + 1; tel", "1;2", "3;5")
	// An own one for each place, in each instance: two nodes that call one, each twice.
	hold(t, sum+"node a(x: int) returns (y: int); let y = sum(x) + sum(10 * x); tel node b(x: int) returns (y: int); let y = a(x) - 100 * a(x * 2); tel node f(x: int; c: bool) returns (y, z: int); let y = b(x); z = merge c a(x when c) (0); tel",
		"1 0;2 1;3 0;4 1", "-2189 0;-6567 22;-13134 0;-21890 66")
	// What a called node keeps beneath its own whens, while the call ticks at some ticks alone.
	hold(t, "node g(k: bool; v: int) returns (o: int); let o = merge k ((0 fby v) when k) (9); tel node f(c, k: bool; v: int) returns (y: int); let y = merge c g(k when c, v when c) (7); tel",
		"1 1 1;0 1 2;1 0 3;1 1 4;0 0 5;1 1 6", "0;7;9;3;7;4")
}

// P12.1: what was told once is told again: a call leaves nothing behind.
func TestCallsKeepNothing(t *testing.T) {
	text := sum + one("sum(x) + (0 fby y)")
	for range 3 {
		hold(t, text, "1 0;2 0;3 0", "1;4;10")
		hold(t, text, "5 0;6 0", "5;16")
	}
}
