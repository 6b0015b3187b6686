package cau_test

import (
	"strings"
	"testing"

	"escapement/api"
	"escapement/cau"
	"escapement/syn"
)

// check holds that the first fault is at the ^ of a text, or that there is none, if it has no ^.
func check(t *testing.T, marked string) {
	t.Helper()
	text := strings.ReplaceAll(marked, "^", "")
	var want api.Fault
	if at := strings.Index(marked, "^"); at >= 0 {
		want = api.Fault{Err: api.ECAUSE, At: at}
	}
	if f := cau.Check(parse(t, text)); f != want {
		t.Errorf("P10.1: Check(%q): %v at %d, want %v at %d", marked, f.Err, f.At, want.Err, want.At)
	}
}

// P10.1: what the document shows.
func TestCheckExamples(t *testing.T) {
	check(t, "node f() returns (y: int); let ^y = y + 1; tel")
	check(t, "node f() returns (y: int); let y = 0 fby y; tel")
	check(t, "node f() returns (y: int); let ^y = y; tel")
}

// P10.1: a name that leans on itself without others.
func TestCheckOfOne(t *testing.T) {
	for _, e := range []string{
		"y", "- y", "x + y", "y * x", "y / y", "y -> 1", "1 -> y", "y fby 1", "y fby y", "1 -> y + pre y", "if c then y else 1", "if c then 1 else y", "if y = 1 then 1 else 2", "if not (c and x < y) then 1 else 2", "g(y, 1)", "g(1, y)", "g(x, g(x, y))", "merge c (y when c) 1", "merge c 1 (y when not c)", "merge c (0 fby (y when c)) (y when not c)", "(y fby x) fby x", "0 -> x -> y", "y * 0", "y - y",
	} {
		check(t, "node g(a, b: int) returns (y: int); let y = 0 fby (a + b); tel node f(x: int; c: bool) returns (y: int); let ^y = "+e+"; tel")
	}
	for _, e := range []string{
		"1", "x", "0 fby y", "0 -> pre y", "0 fby y fby y", "0 fby (y fby y)", "0 -> pre (y + y)", "0 -> pre (y fby y)", "0 -> pre (y -> y)", "0 -> pre g(y, y)", "0 fby g(y, y)", "g(0 fby y, x)", "0 -> pre merge c (y when c) 1", "merge c (0 fby (y when c)) (1 -> pre (y when not c))", "0 fby (if c then y else 1)", "if 0 fby y = 1 then 1 else 2", "y() + x",
	} {
		check(t, "node g(a, b: int) returns (y: int); let y = a + b; tel node y() returns (y: int); let y = 1; tel node f(x: int; c: bool) returns (y: int); let y = "+e+"; tel")
	}
	check(t, "node f(c: bool) returns (y: bool); let ^y = merge y true false; tel")
	check(t, "node f(c: bool) returns (y: bool); let ^y = merge y true (c when not y); tel")
	check(t, "node f(c: bool) returns (y: bool); let ^y = not y; tel")
}

// P10.1: a name that leans on itself by way of others; of several the one whose equation stands first, wherever it is
// declared.
func TestCheckOfRings(t *testing.T) {
	for _, eqs := range []string{
		"^y = a; a = b; b = d; d = y;", "^d = y; b = d; a = b; y = a;", "^a = b; y = a; d = y; b = d;", "^y = a; a = y; b = 1; d = 1;", "b = 1; d = 1; ^a = y; y = a;", "^y = d; d = y; b = 1; a = b;",
		"b = 1; ^a = y; y = a + d; d = y;", "b = 0 fby a; ^d = y; a = d; y = x -> b + a;", "^b = d; d = b; y = a; a = y;", "^a = y; d = b; b = d; y = a;",
	} {
		check(t, "node f(x: int) returns (y: int); var a, b, d: int; let "+eqs+" tel")
	}
}

// P10.1: who leans on a ring, or is leant on by one, or stands between two, has no fault.
func TestCheckBesideRings(t *testing.T) {
	for _, eqs := range []string{
		"y = a; ^a = b; b = a; d = 1;", "y = a; d = y; ^b = a; a = b;", "y = d; b = y; a = b; ^d = d;", "y = 1; a = y; b = a; ^d = d + y;", "y = 1; b = y; ^a = b + d; d = a;", "y = b; b = a; ^a = a + d; d = 1;",
		"b = a; ^d = d + b; a = a; y = 1;", "b = a; ^a = a + 1; d = b + d; y = 1;", "b = d; ^y = a; a = y + b; d = d;", "b = y; ^d = a; a = d + b; y = y;", "a = b + d; b = d; ^y = a + y; d = d - 1;",
		"y = a; a = b; b = d; d = 1;", "y = a; a = b; b = d; d = 0 fby y;", "y = 0 -> pre a; a = b; b = d; d = y;", "y = a + b + d; a = b + d; b = d + d; d = x;", "y = 0 fby a; a = y + b + d; b = y; d = y + b;",
	} {
		check(t, "node f(x: int) returns (y: int); var a, b, d: int; let "+eqs+" tel")
	}
}

// P10.1: by way of an On.
func TestCheckOfOns(t *testing.T) {
	for _, text := range []string{
		"returns (o: bool); var a: bool when o; let ^a = true; o = merge o (a) false;", "returns (o: bool); var a: bool when o; let ^o = merge o (a) false; a = true;", "returns (o: bool); var a: bool when not o; let ^a = true; o = merge o false (a);",
		"returns (o: bool); var a: bool when o; let a = true; ^o = merge o (true fby a) false;", "returns (o: bool); var a: bool when o; let a = true; o = true fby merge o (a) false;",
		"returns (o: bool); var a, b: bool when o; let b = a; ^a = true; o = merge o (a) false;",
		"returns (o: bool); var a: bool when o; b: bool when a; let ^b = true; a = true; o = merge o (merge a (b) true) false;", "returns (o: bool); var a: bool when o; b: bool when a; let b = true; ^a = true; o = merge o (a) false;",
		"returns (y: int); var k: bool; a: bool when k; let ^a = true; k = y > 0; y = merge k (if a then 1 else 2) 3;", "returns (y: int); var k: bool; a: bool when k; let a = true; ^k = y > 0; y = merge k 1 2;",
		"returns (y: int); var k: bool; a: bool when k; let a = true; k = 0 fby y > 0; y = merge k (if a then 1 else 2) 3;",
		"returns (y: int); var k: bool; a: bool when c; let ^a = a; k = c; y = merge k 1 2;", "returns (y: int); var k: bool; a: bool when k; let k = c; ^a = not a; y = merge k (if a then 1 else 2) 3;",
	} {
		check(t, "node f(c: bool) "+text+" tel")
	}
}

// P10.1: node by node; names of one node are nobody in another.
func TestCheckOfNodes(t *testing.T) {
	const good, bad = "(x: int) returns (y: int); var a: int; let y = a; a = x; tel ", "(x: int) returns (y: int); var a: int; let y = a; ^a = x + a; tel "
	check(t, "node f"+good+"node g"+good+"node h"+good)
	check(t, "node f"+bad+"node g"+good)
	check(t, "node f"+good+"node g"+bad)
	check(t, "node f"+good+"node g"+bad+"node h"+strings.ReplaceAll(bad, "^", ""))
	check(t, "node f(x: int) returns (y: int); var a: int; let y = x; a = y; tel node g(x: int) returns (y: int); var a: int; let y = a; a = x; tel")
	check(t, "node f(a: int) returns (y: int); let y = a; tel node g(y: int) returns (a: int); let a = f(y); tel")
	check(t, "node f(a: int) returns (y: int); let y = 0 fby a; tel node g() returns (y, z: int); let ^y = f(z); z = f(y); tel")
	check(t, "node f(a: int) returns (y: int); let y = 0 fby a; tel node g() returns (y, z: int); let y = f(0 fby z); z = f(y); tel")
	for _, none := range [][]syn.Node{nil, {}, {{}}} {
		if f := cau.Check(none); f != (api.Fault{}) {
			t.Errorf("P10.1: Check of no nodes: %v at %d", f.Err, f.At)
		}
	}
}
