package names_test

import (
	"strings"
	"testing"

	"escapement/api"
	"escapement/names"
	"escapement/syn"
)

// parse reads a program that syn does not refuse.
func parse(t *testing.T, promise, text string) []syn.Node {
	t.Helper()
	l, f := syn.Parse(text)
	if f.Err != api.OK {
		t.Fatalf("%s: Parse(%q): %v at %d", promise, text, f.Err, f.At)
	}
	return l
}

// check holds that the first fault is at the ^ of a text, or that there is none, if it has no ^.
func check(t *testing.T, marked string) {
	t.Helper()
	text := strings.ReplaceAll(marked, "^", "")
	var want api.Fault
	if at := strings.Index(marked, "^"); at >= 0 {
		want = api.Fault{Err: api.ENAME, At: at}
	}
	if f := names.Check(parse(t, "P6.1", text)); f != want {
		t.Errorf("P6.1: Check(%q): %v at %d, want %v at %d", marked, f.Err, f.At, want.Err, want.At)
	}
}

// P6.1: what the document shows.
func TestCheckExample(t *testing.T) {
	check(t, "node f() returns (y: int); let y = ^z; tel")
}

// P6.1: programs of which all names are somebody's, once.
func TestCheckOfNoFault(t *testing.T) {
	for _, text := range []string{
		"node f() returns (y: int); let y = 1; tel",
		"node f(x: int) returns (y: int); let y = x; tel",
		"node f(x: int) returns (y: int); let y = y; tel",
		"node f(a, b: int) returns (y, z: int); var l, m: int; let m = l; z = m; l = y; y = a; tel",
		"node f(a: int; b: bool) returns (y: int); var; let y = merge y (y when y) (y when not y); tel",
		"node f(f: int) returns (g: int); let g = f; tel node g(f: int) returns (y: int); let y = f(f); tel",
		"node f() returns (y: int); let y = 1; tel node g(f: int) returns (g: int); let g = f() + f; tel",
		"node f() returns (y: int); var a: bool; b: int when a; c: int when not b; d, e: int when c; let y = 1; a = 2; b = 3; c = 4; d = 5; e = 6; tel",
		"node f(x: bool) returns (y: int); var a: bool when x; b: bool when y; let y = 1; a = 2; b = 3; tel",
		"node f() returns (y: int); let y = 1; tel node g(a: int) returns (z: int); let z = a; tel node h(a, b: int) returns (y: int); var m: int; let y = m; m = f() + g(a) + g(f()) + g(g(b)); tel node k(a, b: int) returns (y: int); let y = a; tel",
	} {
		check(t, text)
	}
	if f := names.Check(nil); f != (api.Fault{}) {
		t.Errorf("P6.1: Check of no nodes: %v at %d", f.Err, f.At)
	}
}

// P6.1: a kind, or a clock, that does not fit is no fault of names.
func TestCheckAsksNamesAlone(t *testing.T) {
	check(t, "node f(c: int) returns (y: bool); var a: int when c; let y = 1 + true; a = merge c (y) (a when y) -> pre a; tel")
	check(t, "node f(c: bool) returns (y: int); let y = c; tel node g() returns (y: int); let y = f(1) and f(true when y); tel")
}

// P6.1: 1, the node: its name, and its outputs.
func TestNodeFaults(t *testing.T) {
	const f = "node f() returns (y: int); let y = 1; tel "
	const g = "node g() returns (y: int); let y = 1; tel "
	for _, marked := range []string{
		f + "^" + f,
		f + g + "^" + f,
		f + g + "^" + g,
		f + g + "^" + f + "node g() returns (); let tel",
		"^node f() returns (); let tel",
		"^node f(x: int) returns (); var y: int; let y = x; tel",
		f + "^node g() returns (); let tel",
		f + "^node f() returns (); let tel",
	} {
		check(t, marked)
	}
}

// P6.1: 2, what is declared: each once, and each On ahead of what hangs on it.
func TestDeclarationFaults(t *testing.T) {
	for _, marked := range []string{
		"node f(x, ^x: int) returns (y: int); let y = 1; tel",
		"node f(x: int; a: bool; ^x: bool) returns (y: int); let y = 1; tel",
		"node f(x: int; ^x: int) returns (y: int); let y = 1; tel",
		"node f(x: int) returns (^x: int); let x = 1; tel",
		"node f(x: int) returns (y, ^x: int); let y = 1; tel",
		"node f() returns (y, ^y: int); let y = 1; tel",
		"node f(x: int) returns (y: int); var ^x: int; let y = 1; tel",
		"node f(x: int) returns (y: int); var ^y: int; let y = 1; tel",
		"node f(x: int) returns (y: int); var a: int; b: bool; ^a: bool; let y = 1; a = 1; b = 1; tel",
		"node f(x, ^x, x: int) returns (x: int); var x: int; let x = 1; tel",
		"node f() returns (y: int); var ^a: int when q; let y = 1; a = 1; tel",
		"node f() returns (y: int); var ^a: int when not q; let y = 1; a = 1; tel",
		"node f() returns (y: int); var ^a: int when b; b: bool; let y = 1; a = 1; b = 1; tel",
		"node f() returns (y: int); var ^a: int when a; let y = 1; a = 1; tel",
		"node f() returns (y: int); var ^a, b: int when b; let y = 1; a = 1; b = 1; tel",
		"node f() returns (y: int); var ^a, b: int when a; let y = 1; a = 1; b = 1; tel",
		"node f() returns (y: int); var b: bool; a: int when b; ^c: int when f; let y = 1; a = 1; b = 1; c = 1; tel",
		"node f(q: int) returns (y: int); let y = 1; tel node g() returns (y: int); var ^a: int when q; let y = 1; a = 1; tel",
	} {
		check(t, marked)
	}
}

// P6.1: 2, of several the one that is declared first.
func TestDeclarationsAreAskedInOrder(t *testing.T) {
	for _, marked := range []string{
		"node f(x, ^x: int) returns (y, y: int); var a: int when q; let tel",
		"node f(x: int) returns (^x: int); var y: int when q; y: int; let tel",
		"node f() returns (y: int); var ^a: int when q; a: int; let tel",
		"node f() returns (y: int); var a: int; ^a: int; b: int when q; let tel",
		"node f() returns (y: int); var ^y: int when q; let tel",
	} {
		check(t, marked)
	}
}

// P6.1: 3, whom an equation defines.
func TestEquationFaults(t *testing.T) {
	for _, marked := range []string{
		"node f(x: int) returns (y: int); let ^x = 1; y = 1; tel",
		"node f(x: int) returns (y: int); let y = 1; ^x = 1; tel",
		"node f(x: int) returns (y: int); let y = 1; ^z = 1; tel",
		"node f(x: int) returns (y: int); let y = 1; ^f = 1; tel",
		"node f(x: int) returns (y: int); let y = 1; ^y = 1; tel",
		"node f(x: int) returns (y: int); var a: int; let a = 1; y = 2; ^a = 3; tel",
		"node f(x: int) returns (y: int); let ^z = q; y = 1; tel",
		"node f(x: int) returns (y: int); let ^x = q; y = 1; tel",
		"node f(x: int) returns (y: int); let y = 1; ^y = q; tel",
		"node f() returns (a: int); let a = 1; tel node g() returns (y: int); let y = 1; ^a = 1; tel",
	} {
		check(t, marked)
	}
}

// P6.1: 3, whom an expression names.
func TestNameFaults(t *testing.T) {
	for _, e := range []string{
		"^z", "^f", "^g", "^q", "(^z)", "- ^z", "not ^z", "pre ^z", "x when x when not x + ^z",
		"^z + 1", "1 + ^z", "x + x * (x - pre ^z)", "x -> ^z", "x fby ^z", "x = ^z", "x and ^z",
		"if ^z then x else x", "if x then ^z else x", "if x then x else ^z",
		"x ^when z", "x ^when not z", "x when x ^when f", "(x ^when z) when y", "x when y + (x ^when z)", "^merge z x x", "merge x ^z x", "merge x x ^z", "merge x (merge y x ^z) z", "merge x (^merge f x x) x",
	} {
		check(t, "node f() returns (q: int); let q = 1; tel node g(x: int) returns (y: int); let y = "+e+"; tel")
	}
}

// P6.1: 3, who is called: a node ahead, of one output, with as many arguments as it has inputs.
func TestCallFaults(t *testing.T) {
	const ahead = "node none() returns (q: int); let q = 1; tel node one(x: int) returns (y: int); let y = x; tel " +
		"node two(a: int; b: bool) returns (y: int); let y = a; tel node pair(a: int) returns (p, q: int); let p = a; q = a; tel "
	const behind = " node later() returns (y: int); let y = 1; tel"
	for _, e := range []string{
		"none()", "one(x)", "two(x, x)", "one(one(two(none(), x)))", "none() + one(none())",
		"^x()", "^q()", "^g()", "^g(1)", "^later()", "^missing()",
		"^none(1)", "^none(z)", "^one()", "^one(1, 2)", "^one(z, z)", "^two()", "^two(1)", "^two(1, 2, 3)", "^pair(1)", "^pair()", "^pair(z)",
		"one(^z)", "two(^z, w)", "two(x, ^z)", "one(^one())", "two(one(x), ^one())", "two(one(^none(1)), z)", "one(^pair(1))", "x + (one() ^when z)",
	} {
		check(t, ahead+"node g(x: int) returns (y: int); let y = "+e+"; tel"+behind)
	}
}

// P6.1: 3, each part ahead of its kids, these from the left, wherever they stand in the text.
func TestPartsAreAskedInOrder(t *testing.T) {
	for _, e := range []string{
		"^z + w", "1 + ^z * w", "z ^when w", "(z when y) ^when w", "(y ^when w) when y", "^merge w z z", "merge x ^z w", "^missing(z)", "(^z when x) + missing(w)",
		"if ^z then w else v", "(if x then ^z else w) + v", "x -> ^z -> w",
	} {
		check(t, "node g(x: int) returns (y: int); let y = "+e+"; tel")
	}
}

// P6.1: 4, an output or a local that no equation defines.
func TestMissingEquations(t *testing.T) {
	for _, marked := range []string{
		"node f() returns (^y: int); let tel",
		"node f(x: int) returns (^y: int); let tel",
		"node f() returns (y, ^z: int); let y = 1; tel",
		"node f() returns (^y, z: int); let z = 1; tel",
		"node f() returns (^y, z: int); var a: int; let tel",
		"node f() returns (y: int); var ^a: int; let y = a; tel",
		"node f() returns (y: int); var ^a, b: int; let y = 1; tel",
		"node f() returns (y: int); var a, ^b: int; let a = b; y = 1; tel",
		"node f() returns (y, ^z: int); var a: int; let y = 1; tel",
		"node f() returns (y: int); let y = 1; tel node g() returns (^y: int); let tel",
	} {
		check(t, marked)
	}
}

// P6.1: of several faults the one of the first node, and there the one that the document names first.
func TestFaultsAreAskedInOrder(t *testing.T) {
	for _, marked := range []string{
		"^node f(x, x: int) returns (); var a: int when q; let z = 1; tel",
		"node f(x: int) returns (y: int); var ^a: int when q; let x = z; tel",
		"node f() returns (y: int); var ^y: int; let y = 1; y = 1; tel",
		"node f() returns (y, z: int); let y = ^q; tel",
		"node f() returns (y, z: int); let y = 1; ^y = 2; tel",
		"node f() returns (y: int); let y = ^q; y = p; tel",
		"node f() returns (y: int); let y = 1 + ^q; x = 1; tel",
		"node f() returns (^y: int); let tel node f() returns (); let tel",
		"node f() returns (y: int); let y = ^g(); tel node g() returns (y, y: int); let tel",
		"node f() returns (y: int); let y = 1; tel ^node f(x, x: int) returns (y: int); let y = f(1); tel",
	} {
		check(t, marked)
	}
}

// P6.1: what one node declares or defines is no other's.
func TestNodesHaveNamesOfTheirOwn(t *testing.T) {
	check(t, "node f(a: int) returns (b: int); var c: int; let b = a; c = a; tel node g(b: int) returns (a: int); var c: int; let a = b; c = b; tel")
	for _, name := range []string{"a", "b", "c"} {
		check(t, "node f(a: int) returns (b: int); var c: int; let b = a; c = a; tel node g() returns (y: int); let y = ^"+name+"; tel")
	}
}
