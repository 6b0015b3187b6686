package clk_test

import (
	"strings"
	"testing"

	"escapement/api"
	"escapement/clk"
	"escapement/syn"
)

// check holds that the first fault is at the ^ of a text, or that there is none, if it has no ^.
func check(t *testing.T, marked string) {
	t.Helper()
	text := strings.ReplaceAll(marked, "^", "")
	var want api.Fault
	if at := strings.Index(marked, "^"); at >= 0 {
		want = api.Fault{Err: api.ECLOCK, At: at}
	}
	if f := clk.Check(parse(t, "P8.2", text)); f != want {
		t.Errorf("P8.2: Check(%q): %v at %d, want %v at %d", marked, f.Err, f.At, want.Err, want.At)
	}
}

// inNode is what declares has, with that as y's expression.
func inNode(e string) string { return declares + e + "; tel" }

// P8.2: what the document shows.
func TestCheckExample(t *testing.T) {
	check(t, "node f(x: int; c: bool) returns (y: int); let y = x ^+ (x when c); tel")
}

// P8.2: programs of which all clocks fit.
func TestCheckOfNoFault(t *testing.T) {
	for _, text := range []string{
		"node f() returns (y: int); let y = 1; tel",
		"node f(x: int; c: bool) returns (y: int; z: bool); let z = c; y = x; tel",
		"node f(x: int; c: bool) returns (y: int); var a: int when c; b: int when not c; let y = merge c (a) (b); a = x when c; b = x when not c; tel",
		"node f(x, c: bool) returns (y: int); var a: bool when c; b: int when a; d: int when not a; let y = merge c (merge a (b) (d)) 0; b = 1; d = 2 when not a; a = x when c; tel",
		"node f() returns (y: bool); var a: int when y; let y = true; a = 1 when y; tel",
		"node g(x: int) returns (y: int); let y = 0 -> pre x; tel node f(x: int; c: bool) returns (y: int); var a: int when c; let y = merge c (a) (g(x when not c)); a = g(x) when c; tel",
		"node f(c: bool) returns (y: int); let y = 1; tel node g(x: bool) returns (y: int); var c: int when x; let y = merge x (f(true) + c) 1; c = 1; tel",
		inNode("0 -> pre x + merge c (p) (q fby q)"),
		inNode("merge c (merge e (r) (s) + p) 1"),
	} {
		check(t, text)
	}
	for _, none := range [][]syn.Node{nil, {}, {{}}} {
		if f := clk.Check(none); f != (api.Fault{}) {
			t.Errorf("P8.2: Check of no nodes: %v at %d", f.Err, f.At)
		}
	}
}

// P8.2: what is late, and what hangs on itself, are no faults of clocks.
func TestCheckAsksClocksAlone(t *testing.T) {
	check(t, inNode("y + pre x + merge c (pre p) (q)"))
	check(t, "node f(c: bool) returns (y: int); var a: int when c; let y = merge c (a) (y when not c); a = a + pre a; tel")
}

// P8.2: an equation on another clock than its name: an input's is the empty one, as an output's; a local's its On's and a step.
func TestEquationFaults(t *testing.T) {
	for _, marked := range []string{
		"node f(x: int; c: bool) returns (y: int); let ^y = x when c; tel",
		"node f(x: int; c: bool) returns (y: int); let ^y = 1 when c; tel",
		"node f(x: int; c: bool) returns (y: int); var a: int when c; let ^y = a; a = 1; tel",
		"node f(x: int; c: bool) returns (y: int); var a: int when c; let y = 1; ^a = x; tel",
		"node f(x: int; c: bool) returns (y: int); var a: int when c; let y = 1; ^a = x when not c; tel",
		"node f(x: int; c: bool) returns (y: int); var a: int when not c; let y = 1; ^a = x when c; tel",
		"node f(x: int; c, d: bool) returns (y: int); var a: int when c; let y = 1; ^a = x when d; tel",
		"node f(x: int; c: bool) returns (y: int); var a: int; let y = 1; ^a = x when c; tel",
		"node f(x: int; c: bool) returns (y: int); var e: bool when c; a: int when e; let y = 1; e = true; ^a = x when c; tel",
		"node f(x: int; c: bool) returns (y: int); var e: bool when c; a: int when c; let y = 1; e = true; ^a = x when c when e; tel",
		"node f(x: int; c: bool) returns (y: int); var e, g: bool when c; a: int when e; let y = 1; e = true; g = e; ^a = x when c when g; tel",
		"node f(x: int; c: bool) returns (y, z: int); let z = x; ^y = - (x when c); tel",
		"node f(x: int) returns (y: int); let y = x; tel node g(x: int; c: bool) returns (y: int); let ^y = f(x when c); tel",
		"node f(c: bool) returns (y: int); var a: int when c; let y = 1; a = 1; tel node g(c: bool) returns (y, a: int); let y = a; ^a = 1 when c; tel",
		"node f(c: bool) returns (y: int); var e: bool when c; let e = true; ^y = merge e 1 2; tel",
		"node f(c: bool) returns (y: int); var e: bool when c; a: int when c; let e = true; a = merge e 1 2; ^y = a; tel",
	} {
		check(t, marked)
	}
}

// P8.2: a part whose kids do not fit: it is told where it stands, which is the sign of what stands between two.
func TestPartFaults(t *testing.T) {
	for _, e := range []string{
		"x ^+ p", "p ^- x", "p ^* q", "r ^/ p", "r ^mod s", "x ^-> p", "p ^fby q", "^g(x, p)",
		"if x ^= p then 1 else 2", "if x ^<> p then 1 else 2", "if p ^< x then 1 else 2", "if p ^<= x then 1 else 2", "if p ^> x then 1 else 2", "if p ^>= x then 1 else 2",
		"if e ^and c then 1 else 2", "if c ^or h then 1 else 2", "if w ^xor e then 1 else 2",
		"^if e then x else x", "^if c then p else x", "^if c then x else p", "^if k() then x else p",
		"p ^when c", "p ^when not c", "x ^when e", "r ^when e", "q ^when e", "(x when d) ^when e",
		"^merge c (p) (p)", "^merge c (q) (p)", "^merge c (q) (q)", "^merge c (x) (x)", "^merge c (p) (x)", "^merge c (x) (q)", "^merge c (r) 1", "^merge c 1 (r)", "^merge e (p) (p)", "^merge e (s) (r)", "^merge d (p) (q)",
	} {
		check(t, inNode(e))
	}
}

// P8.2: a fault within others, in each place where one may stand.
func TestFaultsWithin(t *testing.T) {
	for _, around := range []string{
		"- (#)", "pre (#)", "x + (#)", "(#) - x", "if (#) = x then 1 else 2", "if not (x < (#)) then 1 else 2", "x -> (#)", "(#) -> x", "x fby (#)", "(#) fby x",
		"(#) when c", "(#) when e", "if c then # else x", "if c then x else #", "merge c (#) (q)", "merge c (p) (#)", "merge c (x) (#)", "g(#, p)", "g(x, #)", "g(x, g(1, g(2, #)))",
	} {
		for _, bad := range []string{"p ^+ q", "r ^when c", "^g(x, p)", "^merge c 1 (x)", "^if e then x else x"} {
			check(t, inNode(strings.ReplaceAll(around, "#", bad)))
		}
	}
}

// P8.2: kids ahead of what they are in, and these from the left, wherever they stand in the text.
func TestPartsAreAskedInOrder(t *testing.T) {
	for _, e := range []string{
		"(x ^+ p) + (x + p)", "(x + 1) + (x ^+ p)", "x + (x ^+ p)", "p + (p ^+ q) + x", "p ^+ q + x", "x ^when e + p", "(x ^when e) when w", "(p ^+ x) when c",
		"- (x ^- p)", "if (x ^= p) then p + q else x + p", "if c then p ^+ q else x + p", "if c then p else x ^+ p", "^if c then p else x",
		"merge c (x ^+ p) (x + p)", "merge c (x) (x ^+ p)", "^merge c (x) (x)", "merge c (x ^when e) (p)", "^merge c (p when e) (p)",
		"g(x ^+ p, p + q)", "g(p, x ^+ p)", "^g(p, x)", "x -> (x ^+ p) -> p", "x -> p ^-> x", "x fby p ^fby x", "p ^fby x fby x", "(x ^* p) + (x / p)", "x + p ^* x", "x ^+ p - x", "(r ^when e) when w",
	} {
		check(t, inNode(e))
	}
}

// P8.2: of several faults that of the first node, and there of the first equation, and a part ahead of its equation.
func TestFaultsAreAskedInOrder(t *testing.T) {
	for _, marked := range []string{
		"node f(x: int; c: bool) returns (y: int); var a: int when c; let ^y = a; a = x + a; tel",
		"node f(x: int; c: bool) returns (y: int); var a: int when c; let a = x ^+ a; y = a; tel",
		"node f(x: int; c: bool) returns (y: int); var a: int when c; let ^a = x; y = x + a; tel",
		"node f(x: int; c: bool) returns (y: int); var a: int when c; let y = x; ^a = x; tel",
		"node f(x: int; c: bool) returns (y: int); let y = (x ^+ (1 when c)) when c; tel",
		"node f(x: int; c: bool) returns (y: int); let ^y = x when c; tel node g(x: int; c: bool) returns (y: int); let y = x + (1 when c); tel",
		"node f(x: int; c: bool) returns (y: int); let y = x ^+ (1 when c); tel node g(x: int; c: bool) returns (y: int); let y = x when c; tel",
		"node f(x: int; c: bool) returns (y: int); let y = x; tel node g(x: int; c: bool) returns (y: int); let ^y = x when c; tel node h(x: int; c: bool) returns (y: int); let y = x when c; tel",
		"node f(x: int; c: bool) returns (y: int); let y = x; tel node g(x: int) returns (y: int); let y = x; tel node h(x: int; c: bool) returns (y: int); let y = x ^+ f(x when c, c when c); tel",
	} {
		check(t, marked)
	}
}
