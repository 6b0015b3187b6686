package typ_test

import (
	"strings"
	"testing"

	"escapement/api"
	"escapement/names"
	"escapement/syn"
	"escapement/typ"
)

// check holds that the first fault is at the ^ of a text, or that there is none, if it has no ^.
func check(t *testing.T, marked string) {
	t.Helper()
	text := strings.ReplaceAll(marked, "^", "")
	var want api.Fault
	if at := strings.Index(marked, "^"); at >= 0 {
		want = api.Fault{Err: api.ETYPE, At: at}
	}
	l := parse(t, "P7.2", text)
	if f := names.Check(l); f.Err != api.OK {
		t.Fatalf("P7.2: %q has a fault of names at %d", marked, f.At)
	}
	if f := typ.Check(l); f != want {
		t.Errorf("P7.2: Check(%q): %v at %d, want %v at %d", marked, f.Err, f.At, want.Err, want.At)
	}
}

// inNode is a node of ints and bools, with an equation of an int, and one ahead of it that may be called.
func inNode(e string) string {
	return "node g(a: int; b: bool) returns (y: bool); let y = b; tel node f(x: int; c: bool) returns (y: int; z: bool); let z = c; y = " + e + "; tel"
}

// P7.2: what the document shows.
func TestCheckExample(t *testing.T) {
	check(t, "node f() returns (y: int); let y = 1 ^+ true; tel")
}

// P7.2: programs of which all kinds fit.
func TestCheckOfNoFault(t *testing.T) {
	for _, text := range []string{
		"node f() returns (y: int); let y = 1; tel",
		"node f() returns (y: bool); let y = false; tel",
		"node f(x: int; c: bool) returns (y: int; z: bool); let z = c; y = x; tel",
		"node f(x: bool) returns (y: int); var a: int when x; b: bool when not x; d: int when b; let y = merge x (a) (merge b d 1); a = 1; b = true; d = 1; tel",
		"node f() returns (y: bool); var a: int when y; let y = true; a = 1; tel",
		"node f(x: int) returns (y: bool); let y = x = 1; tel node g(x: bool) returns (y: int); let y = if f(1) = x then 1 else 0; tel",
		"node f(f: int) returns (g: bool); let g = f = f; tel node g(f: int) returns (y: bool); let y = f(f); tel",
		inNode("0 -> pre x + (merge c (x when c) (0 fby y))"),
		inNode("if g(x, g(1, c)) and (x < 1 or c <> z) then -x else x mod 2"),
	} {
		check(t, text)
	}
	for _, none := range [][]syn.Node{nil, {}} {
		if f := typ.Check(none); f != (api.Fault{}) {
			t.Errorf("P7.2: Check of no nodes: %v at %d", f.Err, f.At)
		}
	}
}

// P7.2: a clock that does not fit, what is late, and what hangs on itself are no faults of kinds.
func TestCheckAsksKindsAlone(t *testing.T) {
	check(t, inNode("y + (x when c) + (x when not c) + pre pre x"))
	check(t, "node f(c: bool) returns (y: int); var a: int when c; b: bool when c; d: int when b; let y = a; a = y; b = pre b; d = merge c 1 2; tel")
}

// P7.2: a local that hangs on an int.
func TestLocalFaults(t *testing.T) {
	for _, marked := range []string{
		"node f(x: int) returns (y: int); var ^a: int when x; let y = 1; a = 1; tel",
		"node f(x: int) returns (y: int); var ^a: int when not x; let y = 1; a = 1; tel",
		"node f(x: int) returns (y: int); var ^a: bool when y; let y = 1; a = true; tel",
		"node f(x: bool) returns (y: int); var a: int when x; b: int; ^d: int when a; let y = 1; a = 1; b = 1; d = 1; tel",
		"node f(x: bool) returns (y: int); var a: int when x; ^b, d: int when y; let y = 1; a = 1; b = 1; d = 1; tel",
		"node f(x: bool) returns (y: int); var a: int; b: bool; d: int when b; ^e: int when a; g: int when y; let y = 1; a = 1; b = x; d = 1; e = 1; g = 1; tel",
		"node f(b: int) returns (y: int); let y = b; tel node g(x: int; b: bool) returns (y: int); var a: int when b; ^d: int when x; let y = x; a = x; d = x; tel",
	} {
		check(t, marked)
	}
}

// P7.2: an equation of another kind than its name: an output, or a local.
func TestEquationFaults(t *testing.T) {
	for _, marked := range []string{
		"node f() returns (y: int); let ^y = true; tel",
		"node f() returns (y: bool); let ^y = 1; tel",
		"node f(x: int) returns (y: bool); let ^y = x; tel",
		"node f(x: bool) returns (y: int); let ^y = 0 = 1 -> x; tel",
		"node f() returns (y: int); var a: bool; let y = 1; ^a = y; tel",
		"node f() returns (y: int); var a: bool; let ^a = 1; y = 1; tel",
		"node f(x: int) returns (y, z: int); let z = x; ^y = x = 1; tel",
		"node f(x: bool) returns (y: int); var a: int when x; let ^a = x; y = 1; tel",
		"node f() returns (y: bool); let y = true; tel node g() returns (y: int); let ^y = f(); tel",
		"node f() returns (y: int); let y = 1; tel node g() returns (y: bool); let ^y = f(); tel",
	} {
		check(t, marked)
	}
}

// P7.2: a part that fits no rule: it is told where it stands, which is the sign of what stands between two.
func TestPartFaults(t *testing.T) {
	for _, e := range []string{
		"^not x", "^- c", "^- (x = 1)", "^not (x + 1)", "pre ^not x", "pre (^- c)",
		"c ^+ 1", "1 ^+ c", "c ^+ c", "c ^- x", "x ^* c", "c ^/ c", "x ^mod c",
		"c ^= x", "x ^= c", "x ^<> z", "c ^< c", "x ^< c", "c ^<= c", "c ^> z", "c ^>= x",
		"x ^and x", "c ^and x", "x ^and c", "x ^or c", "c ^xor y",
		"x ^-> c", "c ^-> x", "x ^fby c", "c ^fby x",
		"x ^when x", "c ^when y", "x ^when not x", "c ^when not y",
		"^if x then x else x", "^if c then x else c", "^if c then c else x", "^if x then c else x",
		"^merge x x x", "^merge x c c", "^merge y c x", "^merge c x c", "^merge c c x",
		"^g(x, x)", "^g(c, c)", "^g(c, x)",
	} {
		check(t, inNode(e))
	}
}

// P7.2: a fault within others, in each place where one may stand.
func TestFaultsWithin(t *testing.T) {
	for _, around := range []string{
		"not (#)", "- (#)", "pre (#)", "x + (#)", "(#) - x", "(#) = x", "c = (#)", "x < (#)", "c and (#)", "(#) or c", "x -> (#)", "(#) -> x", "x fby (#)", "(#) fby x",
		"(#) when c", "(#) when x", "if # then x else x", "if c then # else x", "if c then x else #", "merge c (#) x", "merge c (x) (#)", "merge x (x) (#)", "g(#, c)", "g(x, #)", "g(c, #)", "g(x, g(1, g(2, #)))",
	} {
		for _, bad := range []string{"1 ^+ c", "^not 1", "x ^when x", "^g(c, c)"} {
			check(t, inNode(strings.ReplaceAll(around, "#", bad)))
		}
	}
}

// P7.2: kids ahead of what they are in, and these from the left, wherever they stand in the text.
func TestPartsAreAskedInOrder(t *testing.T) {
	for _, e := range []string{
		"(1 ^+ c) + (2 + c)", "(x + 1) + (2 ^+ c)", "(1 ^+ c) = c", "c + (c ^+ 1)", "not (1 ^-> c)", "^not x + c", "(1 ^when x) + c",
		"(1 ^+ c + 2) when y", "((1 ^when x) when y) + c", "- (x = (1 ^and 2))",
		"if ^not 1 then 1 + c else - c", "if 1 then 1 ^+ c else - c", "if 1 then 1 else ^- c", "^if 1 then 1 else c",
		"merge x (^not 1) (- c)", "merge x (c) (^- c)", "^merge x (c) (1)",
		"g(c ^+ 1, - c)", "g(c, ^- c)", "^g(c, 1)", "x -> (^- c) -> c", "c -> x ^-> c", "x fby c ^fby 1",
		"(c ^* x) + (c mod x)", "x + c ^* x", "x ^+ c - x",
	} {
		check(t, inNode(e))
	}
}

// P7.2: of several faults that of the first node, and there locals ahead of equations, and a part ahead of its equation.
func TestFaultsAreAskedInOrder(t *testing.T) {
	for _, marked := range []string{
		"node f(x: int) returns (y: int); var ^a: int when x; let y = true; a = 1 + true; tel",
		"node f(x: int) returns (y: int); var a: int; let ^y = true; a = 1 + true; tel",
		"node f(x: int) returns (y: int); var a: int; let a = 1 ^+ true; y = true; tel",
		"node f(x: int) returns (y: int); var a: int; let ^a = true; y = true; tel",
		"node f(x: int) returns (y: bool); let y = - (1 ^+ true); tel",
		"node f(x: int) returns (y: bool); let y = 1 ^+ true; tel",
		"node f() returns (y: bool); let ^y = 1; tel node g(x: int) returns (y: int); var a: int when x; let y = true; a = 1; tel",
		"node f() returns (y: int); let y = 1 ^+ true; tel node g() returns (y: int); let y = true; tel",
		"node f() returns (y: int); let y = 1; tel node g(x: int) returns (y: int); var ^a: int when x; let y = true; a = 1; tel node h() returns (y: int); let y = true; tel",
		"node f() returns (y: int); let y = 1; tel node g() returns (y: int); let y = f(); tel node h() returns (y: int); let ^y = true; tel",
	} {
		check(t, marked)
	}
}
