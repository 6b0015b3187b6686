package ini_test

import (
	"slices"
	"strings"
	"testing"

	"escapement/api"
	"escapement/ini"
	"escapement/syn"
)

// check holds that the first fault is at the ^ of a text, or that there is none, if it has no ^.
func check(t *testing.T, marked string) {
	t.Helper()
	text := strings.ReplaceAll(marked, "^", "")
	var want api.Fault
	if at := strings.Index(marked, "^"); at >= 0 {
		want = api.Fault{Err: api.EINIT, At: at}
	}
	if f := ini.Check(parse(t, "P9.2", text)); f != want {
		t.Errorf("P9.2: Check(%q): %v at %d, want %v at %d", marked, f.Err, f.At, want.Err, want.At)
	}
}

// inNode is what declares has, with that as y's expression.
func inNode(e string) string { return declares + e + "; tel" }

// P9.2: what the document shows.
func TestCheckExamples(t *testing.T) {
	check(t, "node f(x: int) returns (y: int); let ^y = pre x; tel")
	check(t, "node f(x: int) returns (y: int); let y = 0 -> pre x; tel")
}

// P9.2: programs in which no value is used ahead of there being one.
func TestCheckOfNoFault(t *testing.T) {
	for _, text := range []string{
		"node f() returns (y: int); let y = 1; tel",
		"node f(x: int) returns (y: int); let y = 0 fby x; tel",
		"node f(x: int) returns (y: int); let y = 0 -> x -> pre x; tel",
		"node f(x: int) returns (y: int); var a: int; let a = pre x; y = x -> a; tel",
		"node f(x: int) returns (y: int); var a, b: int; let y = 0 -> b; b = - a; a = pre x; tel",
		"node f(x: int; c: bool) returns (y: int); var a: int when c; let y = merge c (0 -> a) 1; a = pre (x when c); tel",
		"node f(x: int) returns (y: int); let y = 0 -> pre x; tel node g(x: int) returns (y: int); var a: int; let a = pre x; y = f(0 -> a); tel",
	} {
		check(t, text)
	}
	for _, e := range earlyTexts {
		// y is on the node's own clock.
		if !strings.HasPrefix(e, "r") && !strings.HasPrefix(e, "x when") {
			check(t, inNode(e))
		}
	}
	for _, e := range lateTexts[:10] {
		check(t, inNode("0 -> "+e))
		check(t, inNode("0 -> (x -> "+e+") + "+e))
	}
	for _, none := range [][]syn.Node{nil, {}, {{}}} {
		if f := ini.Check(none); f != (api.Fault{}) {
			t.Errorf("P9.2: Check of no nodes: %v at %d", f.Err, f.At)
		}
	}
}

// P9.2: what hangs on itself, and is not late, is no fault of this layer.
func TestCheckAsksForLateAlone(t *testing.T) {
	check(t, "node f() returns (y: int); let y = y; tel")
	check(t, "node f(x: int) returns (y, z: int); let y = x -> pre z + y; z = y + z; tel")
	check(t, "node f(x: int) returns (y: int); var a, b: int; let y = 0 -> pre a; a = b; b = a; tel")
}

// P9.2: an equation of an output, or of some local's On, that is late; of no other name.
func TestEquationFaults(t *testing.T) {
	for _, marked := range []string{
		"node f(x: int) returns (y: int); let ^y = pre x + 1; tel",
		"node f(x: int) returns (y: int); let ^y = x + pre (0 -> y); tel",
		"node f(x: int) returns (y: int); let y = x + ^pre y; tel",
		"node f(x: int) returns (y: int); var a: int; let a = pre x; ^y = a; tel",
		"node f(x: int) returns (y: int); var a: int; let ^y = a; a = pre x; tel",
		"node f(x: int) returns (y, z: int); let y = x; ^z = pre y; tel",
		"node f(x: int) returns (y, z: int); let y = 0 -> z; ^z = pre x; tel",
		"node f(x: int) returns (y, z: int); let ^y = z; z = pre x; tel",
		"node f(x: int) returns (y, z: int); let ^z = pre x; y = z; tel",
		"node f(x: int) returns (y: int); var a: int; let y = x; a = pre x; tel",
		"node f(c: bool) returns (y: int); var a: bool; b: int when a; let y = 1; b = 1; ^a = pre c; tel",
		"node f(c: bool) returns (y: int); var a: bool; b: int when not a; let y = 1; b = 1; ^a = pre c; tel",
		"node f(c: bool) returns (y: int); var a: bool when c; b: int when not a; let y = 1; b = 1; ^a = pre (c when c); tel",
		"node f(c: bool) returns (y: int); var a, d: bool; b: int when a; let y = 1; b = 1; ^a = not d; d = pre c; tel",
		"node f(c: bool) returns (y: int); var a, d: bool; b: int when a; let y = 1; b = 1; a = d; d = c; tel",
		"node f(c: bool) returns (y: int); var a, d: bool; b: int when d; let y = 1; b = 1; ^d = pre c; a = d; tel",
		"node f(c: bool) returns (y: int); var a: bool; b, e: bool when c; d: int when b; g: int when e; let y = 1; g = 1; d = 1; ^e = pre (c when c); b = true; a = pre c; tel",
		"node f(c: bool) returns (y: bool); var b: int when y; let ^y = pre c; b = 1; tel",
		"node f(c: bool) returns (y: int); var b: int when c; let y = 1; b = pre (1 when c); tel",
		"node f(c: bool) returns (y: int); var b: int when c; let ^y = merge c 1 2 + pre 1; b = 1; tel",
		"node f(x: int) returns (y: int); var a: int; let a = pre x; y = 0 -> a; tel node g(a: int) returns (y: int); let y = a; tel",
		"node f(x: int) returns (a: int); let a = x; tel node g(x: int) returns (y: int); var a: int; let a = pre x; y = 1; tel",
		"node f(c: bool) returns (y: int); var a: bool; b: int when a; let a = c; b = 1; y = 1; tel node g(c: bool) returns (y: int); var a: bool; let a = pre c; y = 1; tel",
	} {
		check(t, marked)
	}
}

// P9.2: each part that may not be of what is late, told where it stands.
func TestPartFaults(t *testing.T) {
	for _, late := range []string{"l", "n", "(- m)", "(x * l)", "(if k then x else 1)"} {
		for _, e := range []string{"0 -> ^pre #", "# ^-> 0", "# ^fby 0", "0 ^fby #", "^g(#, x)", "^g(x, #)", "^l(#)", "^l(#) + g(1, 1)", "^merge c (# when c) 1", "^merge c 1 (# when not c)"} {
			check(t, inNode(strings.ReplaceAll(e, "#", late)))
		}
	}
	for _, e := range []string{
		"^merge c (p) 1", "^merge c 1 (v)", "^merge k 1 2", "^merge w 1 2", "0 -> ^merge k (1) (2)", "0 -> merge c 1 (0 fby 1)", "merge b (^merge d 1 2) 1",
		"merge k (1 ^when k) 1", "merge k 1 (1 ^when not k)", "0 -> merge k (s ^when k) 1", "0 -> merge w (l ^when w) 1",
		"0 -> (if c then x else ^pre (pre x))", "0 -> ^pre pre x", "0 -> (if ^pre k then 1 else 2)", "0 -> (if not (^pre (not pre c)) then 1 else 2)",
		"pre x ^-> 0", "pre x ^fby 0", "0 ^fby pre x", "^g(pre x, 1)", "^g(1, pre x)", "^merge c (pre (x when c)) 1", "^merge c 1 (pre (x when not c))", "^merge c ((pre x) when c) 1",
		"0 -> ^pre (l + 1)", "0 -> ^pre (1 + l)", "0 -> ^pre (if c then 1 else l)",
	} {
		check(t, inNode(e))
	}
}

// P9.2: what ends lateness ends it for the parts around, and what is late beside it doesn't.
func TestPartsThatAreNoFaults(t *testing.T) {
	for _, e := range []string{
		"0 -> l", "0 -> pre x", "0 -> pre (0 -> l)", "0 -> pre (0 -> pre x)", "(0 -> l) -> 1", "(0 -> l) fby (1 -> n)", "g(0 -> l, 1 -> n)", "l(0 -> l)", "l(2)", "merge c (0 -> p) (0 -> v)", "merge c ((0 -> l) when c) 1", "merge b 1 2",
		"0 -> x + l", "0 -> (if k then l else n)", "0 -> pre g(1, x)", "0 -> pre (1 fby x)", "0 -> pre merge c 1 2", "0 fby (0 -> pre y)", "0 -> - pre x", "0 -> (x -> l)", "0 -> pre x + pre x * pre s",
	} {
		check(t, inNode(e))
	}
}

// P9.2: each Op with kids that are late and that aren't: which kids it may not be of. No kid has a fault of its own.
func TestPartFaultsOfEachOp(t *testing.T) {
	n := program(t, "P9.2", "x")
	faulty := map[string]func(late []bool) bool{
		"->": func(late []bool) bool { return late[0] },
	}
	for _, op := range []string{"pre", "fby", "merge", "call"} {
		faulty[op] = func(late []bool) bool { return slices.Contains(late, true) }
	}
	counts := map[string]int{"pre": 1, "->": 2, "fby": 2, "merge": 2, "call": 3}
	for op, count := range passing {
		counts[op] = count
		faulty[op] = func([]bool) bool { return false }
	}
	for op, count := range counts {
		kidRows(t, count, func(kids []syn.Expr, late []bool) {
			// Its equation's name is nowhere else, so that the equation has no fault, whether it is late or not.
			e := syn.Expr{Op: op, Name: "c", At: -9, Kids: kids}
			n.Eqs = []syn.Eq{{Name: "alone", E: e}, {Name: "l", E: lateExpr}, {Name: "n", E: lateExpr}, {Name: "m", E: lateExpr}, {Name: "k", E: lateExpr}, {Name: "p", E: lateExpr}}
			var want api.Fault
			if faulty[op](late) {
				want = api.Fault{Err: api.EINIT, At: -9}
			}
			if f := ini.Check([]syn.Node{n}); f != want {
				t.Errorf("P9.2: Check of %s: %v at %d, want %v", syn.Text(e), f.Err, f.At, want.Err)
			}
		})
	}
}

// lateExpr is late, and has no fault.
var lateExpr = syn.Expr{Op: "pre", Kids: []syn.Expr{{Op: "int"}}}

// P9.2: whose name is late: a fault of when and merge alone.
func TestLateStepsOfEachOp(t *testing.T) {
	for _, op := range []string{"int", "bool", "var", "call", "pre", "not", "neg", "+", "->", "fby", "if", "when", "merge", ""} {
		for name, isLate := range map[string]bool{"l": true, "s": false, "x": false, "g": false, "nobody": false, "": false} {
			e := syn.Expr{Op: op, Name: name, At: 5}
			n := syn.Node{In: []syn.Var{{Name: "x"}}, Locals: []syn.Var{{Name: "s"}, {Name: "l"}}, Eqs: []syn.Eq{{Name: "s", E: syn.Expr{Op: "->", Kids: []syn.Expr{{Op: "int"}, e}}}, {Name: "l", E: lateExpr}}}
			var want api.Fault
			if isLate && (op == "when" || op == "merge") {
				want = api.Fault{Err: api.EINIT, At: 5}
			}
			if f := ini.Check([]syn.Node{n}); f != want {
				t.Errorf("P9.2: Check of a %q of the name %q: %v at %d, want %v", op, name, f.Err, f.At, want.Err)
			}
		}
	}
}

// P9.2: a fault within others, in each place where one may stand.
func TestFaultsWithin(t *testing.T) {
	for _, around := range []string{
		"- (#)", "pre (#)", "x + (#)", "(#) - x", "if (#) = x then 1 else 2", "if not (x < (#)) then 1 else 2", "x -> (#)", "(#) -> x", "x fby (#)", "(#) fby x", "if c then # else x", "if c then x else #",
		"merge c ((#) when c) 1", "merge c 1 ((#) when not c)", "g(#, x)", "g(x, #)", "g(x, g(1, g(2, #)))", "0 -> pre (0 -> (#))",
	} {
		for _, bad := range []string{"^pre l", "l ^-> 1", "l ^fby 1", "1 ^fby l", "^g(l, 1)", "^merge c (p) 1", "merge k (1 ^when k) 1", "^merge k 1 1"} {
			check(t, inNode(strings.ReplaceAll(around, "#", bad)))
		}
	}
}

// P9.2: kids ahead of what they are in, and these from the left, wherever they stand in the text.
func TestPartsAreAskedInOrder(t *testing.T) {
	for _, e := range []string{
		"0 -> pre ^pre l", "0 -> pre ^pre pre x", "pre (^pre l) + pre l", "pre x + (^pre l) + (l fby l)", "(l ^fby l) + (l fby l)", "(l ^-> 0) -> l fby l", "l ^-> 0", "x -> (l ^fby l) -> l", "l -> (l ^fby x)", "l -> l ^-> x",
		"g(^pre l, l)", "g(l, ^pre l)", "g(^g(l, 1), g(1, l))", "^g(l, g(1, 1))", "g(l, ^g(l, l))", "if l ^fby l = 1 then pre l else pre l", "if c then l ^fby l else pre l", "if c then l else ^pre l",
		"merge k (1 ^when k) (1 when not k)", "merge k 1 (2 ^when not k)", "merge k ((^pre l) when k) 1", "merge k ((l ^fby l) when k) (pre 1)", "^merge k (pre 1) (pre 1)", "merge c (^pre p) (v)", "merge c (p) (^pre v)", "^merge c (p) (v)", "l fby l ^fby 0", "(l ^fby l) fby l",
		"- ^pre l", "(l ^fby 1) - (pre l)", "x + l + (l ^fby 1) * (pre l)",
	} {
		check(t, inNode(e))
	}
}

// P9.2: of several faults that of the first node, and there of the first equation, and a part ahead of its equation.
func TestFaultsAreAskedInOrder(t *testing.T) {
	for _, marked := range []string{
		"node f(x: int) returns (y, z: int); let ^z = pre x; y = pre x; tel",
		"node f(x: int) returns (y, z: int); let ^y = pre x; z = pre x; tel",
		"node f(x: int) returns (y: int); var a: int; let a = ^pre pre x; y = pre x; tel",
		"node f(x: int) returns (y: int); var a: int; let ^y = pre x; a = pre pre x; tel",
		"node f(x: int) returns (y: int); let y = ^pre y + pre x; tel",
		"node f(x: int) returns (y: int); let y = pre x + (y ^fby x); tel",
		"node f(c: bool) returns (y: int); var a: bool; b: int when a; let b = 1 ^when a; a = pre c; y = pre 1; tel",
		"node f(c: bool) returns (y: int); var a: bool; b: int when a; let ^a = pre c; b = 1 when a; y = pre 1; tel",
		"node f(c: bool) returns (y: int); var a: bool; b: int when a; let a = ^pre a; b = 1 when a; y = pre 1; tel",
		"node f(x: int) returns (y: int); let y = x; tel node g(x: int) returns (y: int); let ^y = pre x; tel node h(x: int) returns (y: int); let y = 0 -> pre pre x; tel",
		"node f(x: int) returns (y: int); let y = 0 -> ^pre pre x; tel node g(x: int) returns (y: int); let y = pre x; tel",
		"node f(x: int) returns (y: int); let ^y = pre x; tel node g(x: int) returns (y: int); let y = 0 -> pre pre x; tel",
		"node f(x: int) returns (y: int); var a: int; let y = 0 -> a; a = pre x; tel node g(x: int) returns (y: int); var a: int; let a = x; y = 0 -> ^pre pre a; tel",
	} {
		check(t, marked)
	}
}
