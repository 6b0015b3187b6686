package flat_test

import (
	"fmt"
	"slices"
	"strconv"
	"strings"
	"testing"

	"escapement/api"
	"escapement/flat"
	"escapement/mean"
	"escapement/syn"
)

// holdCount holds a count, and that Flat refuses those that are too many, as mean does.
func holdCount(t *testing.T, l []syn.Node, want int) {
	t.Helper()
	want = min(want, api.MaxEqs+1)
	for range 2 {
		if n := flat.Count(l); n != want {
			t.Errorf("P13.1: Count of\n%.2000s: %d, want %d", syn.Show(l), n, want)
		}
	}
	if want > api.MaxEqs {
		if n, e := flat.Flat(l); e != api.ELIMIT || dump([]syn.Node{n}) != dump([]syn.Node{{}}) {
			t.Errorf("P13.1: Flat of\n%.2000s: %v, %.200s", syn.Show(l), e, dump([]syn.Node{n}))
		}
		if _, e := mean.Run(l, nil); e != api.ELIMIT {
			t.Errorf("P12.1: Run of\n%.2000s: %v", syn.Show(l), e)
		}
	} else if _, e := flat.Flat(l); e != api.OK {
		t.Errorf("P13.1: Flat of\n%.2000s: %v", syn.Show(l), e)
	}
}

// P13.1: the main node's own equations.
func TestCountOfEquations(t *testing.T) {
	holdCount(t, program(t, "node f() returns (y: int); let y = 7; tel"), 1)
	holdCount(t, program(t, one("0 -> pre x")), 1)
	holdCount(t, program(t, many("a, b: int; e: bool when c;", "y = a; a = b; b = x; e = c when c;")), 4)
	for _, none := range [][]syn.Node{nil, {}, {{}}, {{Name: "f"}}} {
		if n := flat.Count(none); n != 0 {
			t.Errorf("P13.1: Count of no equations: %d", n)
		}
	}
}

// sized has nodes without inputs of so many equations: n1, n2 (a call's), n9 (of its own), n98 (with those of its calls).
const sized = "node n1() returns (y: int); let y = 1; tel node n2() returns (y: int); let y = n1(); tel " +
	"node n9() returns (y: int); var a, b, d, e, g, h, i, j: int; let y = 1; a = y; b = a; d = b; e = d; g = e; h = g; i = h; j = i; tel " +
	"node n98() returns (y: int); var a: int; let a = n9() + n9() + n9() + n9() + n9() + (0 fby n9()); y = a + n9() + n9() + (0 -> pre (n9() + 0)) + n9() + n2() + n2() + n2(); tel "

// calls are so many calls of a node without inputs, one behind the other.
func calls(name string, count int) string {
	return "0" + strings.Repeat(" + "+name+"()", count)
}

// spots are places of an expression of x and c in which a call may stand.
var spots = []string{
	"#", "- #", "0 -> pre #", "# fby 0", "0 fby #", "# -> 0", "0 -> #", "(if c then # else 0)", "(if c then 0 else #)", "(if # = 1 then 0 else 1)", "n(#, 0)", "n(0, #)", "(0 fby n(0, 0 -> pre #))",
	"(merge c (# when c) 0)", "(merge c 0 ((1 + #) when not c))", "(merge c (0 -> pre (0 fby #)) 0)", "(0 fby 0 fby 0 fby (0 -> 0 -> # * 0))", "(if not (# < 2 and # >= 0) then 0 else 1)",
}

// P13.1: those of each call, wherever it stands, and of the calls within it.
func TestCountOfCalls(t *testing.T) {
	ahead := sized + "node n(a, b: int) returns (y: int); let y = a; tel "
	sizes := map[string]int{"n1": 1, "n2": 2, "n9": 9, "n98": 98}
	for name, size := range sizes {
		for other, more := range sizes {
			for _, place := range spots {
				e := strings.ReplaceAll(place, "#", name+"()")
				want := strings.Count(place, "#")*size + strings.Count(place, "n(")
				holdCount(t, program(t, ahead+one(e)), 1+want)
				holdCount(t, program(t, ahead+one(other+"() + "+e)), 1+want+more)
				holdCount(t, program(t, ahead+many("a: int;", "a = "+other+"(); y = x + "+e+";")), 2+want+more)
			}
		}
	}
}

// P13.1: those of the main node, and of whom it calls, in some calls or none; nobody else's.
func TestWhoIsCounted(t *testing.T) {
	l := program(t, sized+"node big() returns (y: int); let y = "+calls("n98", 11)+"; tel node f() returns (y: int); let y = n98() + n1(); tel node g() returns (y: int); let y = f(); tel node h() returns (y: int); let y = 0 fby big(); tel node i() returns (y, z: int); let y = 5; z = y; tel")
	for k, want := range []int{1, 2, 9, 98, 1001, 100, 101, 1001, 2} {
		holdCount(t, l[:k+1], want)
	}
}

// P13.1: MaxEqs equations are no more than may be, one more is.
func TestLimit(t *testing.T) {
	// With the main node's own two equations, ten times n98 and the other place's one they are 983; with so many of n1 they
	// are at the limit.
	const left = api.MaxEqs - 983
	ahead := sized + "node n(a, b: int) returns (y: int); let y = a; tel "
	for _, place := range spots {
		e := strings.ReplaceAll(place, "#", "n1()")
		others := left - strings.Count(e, "n(") - strings.Count(e, "n1()") + 1
		for more := range 3 {
			l := program(t, ahead+"node f(x: int; c: bool) returns (y, z: int); let y = "+calls("n98", 10)+" + ("+e+"); z = "+calls("n1", others+more)+"; tel")
			holdCount(t, l, api.MaxEqs+more)
		}
	}
}

// P13.1: a flat node of as many equations as may be means the same; there may be far more than MaxVars names.
func TestGreatestNodes(t *testing.T) {
	const in = "1 0;2 1;3 0;4 1;5 1;6 0"
	hold(t, sized+"node id(a: int) returns (b: int); let b = a; tel node f(x: int; c: bool) returns (y, z: int); let y = "+calls("n98", 10)+" + id(x); z = merge c ("+calls("n1", 8)+") ("+calls("n1", 9)+"); tel", "1 0;2 1;3 0", "111 9;132 8;133 9")
	text := "node count() returns (n: int); let n = 1 fby (n + 1); tel node f(x: int; c: bool) returns (y"
	for k := range 4 {
		text += ", y" + strconv.Itoa(k)
	}
	text += ": int); let y = x;"
	for k := range 4 {
		each := []string{"count()", "(count() when c)", "count()", "count()"}[k]
		e := "0" + strings.Repeat(" + "+each, []int{145, 98, 148, 145}[k])
		text += " y" + strconv.Itoa(k) + " = " + []string{e, "merge c (" + e + ") 0", e, e}[k] + ";"
	}
	hold(t, text+" tel", in, "1 145 0 148 145;2 290 196 296 290;3 435 0 444 435;4 580 392 592 580;5 725 490 740 725;6 870 0 888 870")
}

// inlined is a flat node without the locals that are asked for just once, by a var: each stands where it was asked for.
func inlined(n syn.Node, isIt func(name string) bool) syn.Node {
	asked, eqs := map[string]int{}, map[string]syn.Expr{}
	var walk func(e syn.Expr) syn.Expr
	walk = func(e syn.Expr) syn.Expr {
		if _, ok := eqs[e.Name]; e.Op == "var" && ok {
			return walk(eqs[e.Name])
		}
		asked[e.Name]++
		e.Kids = slices.Clone(e.Kids)
		for k := range e.Kids {
			e.Kids[k] = walk(e.Kids[k])
		}
		return e
	}
	for _, q := range n.Eqs {
		walk(q.E)
	}
	for _, v := range n.Locals {
		asked[v.On]++
	}
	var kept []syn.Eq
	for _, q := range n.Eqs {
		if isIt(q.Name) && asked[q.Name] == 1 {
			eqs[q.Name] = q.E
		} else {
			kept = append(kept, q)
		}
	}
	for k := range kept {
		kept[k].E = walk(kept[k].E)
	}
	n.Eqs = kept
	n.Locals = slices.DeleteFunc(slices.Clone(n.Locals), func(v syn.Var) bool { _, ok := eqs[v.Name]; return ok })
	return n
}

// P13.1: a flat node may have more equations than mean runs, by those of arguments: without these it means the same.
func TestMoreEquationsThanMeanRuns(t *testing.T) {
	const text = "node g(a: int) returns (y: int); var p, q: int; let p = a; q = 0 fby (p + q); y = p * 3 - q; tel "
	h := "node h(x: int; c: bool) returns (y: int); var z: int; let y = z" + strings.Repeat(" - g(x + 1)", 55) + "; z = 1" + strings.Repeat(" - merge c g(x when c + 2) (0)", 20) + "; tel "
	l := program(t, text+h+one("h(x, c) - h(- x, not c) * h(x * x, x < 4) + h(3 fby x, true)"))
	n := holdFlat(t, l)
	if flat.Count(l) != 1+4*(2+75*3) || len(n.Eqs) <= api.MaxEqs {
		t.Errorf("P13.1: of %d equations there are %d", flat.Count(l), len(n.Eqs))
	}
	small := inlined(n, func(name string) bool { return strings.HasSuffix(name, ".a") })
	in := rows("1 0;2 1;3 0;4 1;5 1;6 0")
	want, _ := mean.Run(l, in)
	if out, e := mean.Run([]syn.Node{small}, in); e != api.OK || written(out) != written(want) || len(out) != len(in) {
		t.Errorf("P13.1: without those of arguments there are %d equations, which mean %v, %s, want %s", len(small.Eqs), e, written(out), written(want))
	}
}

// P13.1, R1: nodes that call the one ahead many times have more equations than any number holds, and are refused at once.
func TestManyEquations(t *testing.T) {
	for _, times := range []int{2, 3, 10, 149} {
		text := "node a0() returns (y: int); let y = 1; tel "
		sum := 1
		for k := 1; k < api.MaxNodes; k++ {
			if len(text)+8*times > api.MaxText-200 {
				break
			}
			text += "node a" + strconv.Itoa(k) + "() returns (y: int); let y = " + calls("a"+strconv.Itoa(k-1), times) + "; tel "
			sum = min(1+times*sum, api.MaxEqs+1)
			holdCount(t, program(t, text), sum)
		}
	}
}

// R1: Count of trees that no layer told: nodes that call themselves, one another, those behind, or nobody; odd parts.
func TestCountOfOddTrees(t *testing.T) {
	call := func(names ...string) syn.Expr {
		e := syn.Expr{Op: "no Op", Name: "f", N: -7, At: -8}
		for _, name := range names {
			e.Kids = append(e.Kids, syn.Expr{Op: "call", Name: name, Kids: []syn.Expr{{Op: "call"}, {}}})
		}
		return e
	}
	node := func(name string, calls ...string) syn.Node {
		return syn.Node{Name: name, Eqs: []syn.Eq{{Name: name, E: call(calls...)}}}
	}
	for _, l := range [][]syn.Node{
		{node("f", "f")}, {node("f", "f", "f", "f")}, {node("f", "g"), node("g", "f")}, {node("f", "g", "f"), node("g", "g", "f"), node("f", "g", "f")}, {node("", ""), node("", "", "")}, {node("f", "nobody")}, {node("g"), node("f", "g"), node("g", "f", "g")},
	} {
		if n := flat.Count(l); n < 1 || n > api.MaxEqs+1 || n != flat.Count(l) {
			t.Errorf("R1: Count of %s: %d", dump(l), n)
		}
	}
	// It asks for no more than equations and calls.
	l := []syn.Node{{Name: "g", Eqs: make([]syn.Eq, 7)}, node("f", "g", "g")}
	if n := flat.Count(l); n != 15 {
		t.Errorf("P13.1: Count of %s: %d", dump(l), n)
	}
	l[1].Eqs[0].E.Op = "call"
	l[1].Eqs[0].E.Name = "g"
	if n := flat.Count(l); n != 22 {
		t.Errorf("P13.1: Count of %s: %d", dump(l), n)
	}
}

// R1: Count of great lists of nodes, equations and parts, and of deep ones.
func TestCountOfGreatTrees(t *testing.T) {
	const count = 100000
	leaf := []syn.Node{{Name: "0", Eqs: make([]syn.Eq, 1)}}
	e := syn.Expr{Op: "call", Name: "0"}
	for range 1<<16 - 2 {
		e = syn.Expr{Op: "neg", Kids: []syn.Expr{e}}
	}
	wide := syn.Expr{Op: "call", Name: "0", Kids: slices.Repeat([]syn.Expr{{Op: "int"}}, count)}
	for name, c := range map[string]struct {
		n    syn.Node
		want int
	}{
		"deep": {syn.Node{Eqs: []syn.Eq{{E: e}, {E: e}}}, 4}, "wide": {syn.Node{Eqs: []syn.Eq{{E: wide}}}, 2}, "many equations": {syn.Node{Eqs: make([]syn.Eq, count)}, api.MaxEqs + 1}, "many calls": {syn.Node{Eqs: []syn.Eq{{E: syn.Expr{Kids: slices.Repeat([]syn.Expr{{Op: "call", Name: "0"}}, count)}}}}, api.MaxEqs + 1},
	} {
		if n := flat.Count(append(slices.Clone(leaf), c.n)); n != c.want {
			t.Errorf("P13.1: Count of %s: %d, want %d", name, n, c.want)
		}
	}
	l := slices.Clone(leaf)
	for k := range count {
		l = append(l, syn.Node{Name: strconv.Itoa(k + 1), Eqs: []syn.Eq{{E: syn.Expr{Op: "call", Name: strconv.Itoa(k)}}}})
		if size := len(l); size <= 1010 && flat.Count(l) != min(size, api.MaxEqs+1) {
			t.Errorf("P13.1: Count of %d nodes: %d", size, flat.Count(l))
		}
	}
	if n := flat.Count(l); n != api.MaxEqs+1 {
		t.Errorf("P13.1: Count of many nodes: %d", n)
	}
}

// R4: Count changes nothing.
func TestCountChangesNothing(t *testing.T) {
	for _, text := range samples {
		l := roomy(program(t, text))
		was := dumpRoom(l)
		flat.Count(l)
		if dumpRoom(l) != was {
			t.Errorf("R4: Count changed %s", fmt.Sprint(l))
		}
	}
}
