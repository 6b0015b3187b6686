package flat_test

import (
	"fmt"
	"math/rand"
	"slices"
	"strconv"
	"strings"
	"testing"

	"escapement/api"
	"escapement/flat"
	"escapement/front"
	"escapement/mean"
	"escapement/syn"
)

// slowCount is how many equations a node has, with those of its calls, gone through one by one as far as the limit.
func slowCount(l []syn.Node, node int) int {
	sum := 0
	var calls func(e syn.Expr)
	calls = func(e syn.Expr) {
		if e.Op == "call" && sum <= api.MaxEqs {
			sum += slowCount(l, slices.IndexFunc(l, func(n syn.Node) bool { return n.Name == e.Name }))
		}
		for _, k := range e.Kids {
			calls(k)
		}
	}
	for _, q := range l[node].Eqs {
		sum++
		calls(q.E)
	}
	return min(sum, api.MaxEqs+1)
}

// notice tells what a program has: parts, parts within parts, what stands for inputs, and on what clocks calls are.
func notice(l []syn.Node, seen map[string]int) {
	var walk func(e syn.Expr, within string)
	walk = func(e syn.Expr, within string) {
		seen[e.Op]++
		seen[within+e.Op]++
		for _, k := range e.Kids {
			walk(k, e.Op+" of ")
		}
	}
	for _, n := range l {
		inputs, locals := map[string]int{}, map[string]string{}
		for _, v := range n.In {
			inputs[v.Name]++
		}
		for _, v := range n.Locals {
			locals[v.Name] = v.On
			seen["On that is an input"] += inputs[v.On]
		}
		for _, q := range n.Eqs {
			walk(q.E, "")
			if locals[q.Name] != "" && hasCalls(q.E) {
				seen["call on a clock"]++
				if locals[locals[q.Name]] != "" {
					seen["call on a clock of two steps"]++
				}
			}
		}
	}
}

// checkProgram holds what a program's flat node is and means, and tells whether it could be held.
func checkProgram(t *testing.T, l []syn.Node, in []api.Row) bool {
	t.Helper()
	count := slowCount(l, len(l)-1)
	holdCount(t, l, count)
	if count > api.MaxEqs {
		return false
	}
	if n, _ := flat.Flat(l); len(n.Eqs) > api.MaxEqs {
		holdFlat(t, l)
		return false
	}
	holdMeans(t, l, in)
	return true
}

// P13.1, R4, R5: programs at random.
func TestPrograms(t *testing.T) {
	if testing.Short() {
		t.Skip("it takes a few seconds")
	}
	m := &maker{r: rand.New(rand.NewSource(13))}
	seen := map[string]int{}
	for range 5000 {
		text := m.program()
		l, f := front.Check(text)
		if f.Err != api.OK {
			if f.Err != api.ELIMIT {
				t.Fatalf("P13.1: what was made has a fault: %q: %v at %d", text, f.Err, f.At)
			}
			continue
		}
		if checkProgram(t, l, m.rows(front.Main(l).In)) {
			notice(l, seen)
		}
		if t.Failed() {
			return
		}
	}
	for _, of := range []string{
		"int", "bool", "var", "call", "not", "neg", "pre", "+", "-", "*", "/", "mod", "=", "<>", "<", "<=", ">", ">=", "and", "or", "xor", "->", "fby", "when", "if", "merge",
		"call of var", "call of int", "call of bool", "call of +", "call of ->", "call of fby", "call of when", "call of if", "call of merge", "call of call", "when of call", "merge of call", "pre of call", "fby of call", "-> of call", "if of call", "+ of call", "not of call",
		"On that is an input", "call on a clock", "call on a clock of two steps",
	} {
		if seen[of] < 50 {
			t.Errorf("of all parts, there were %d of %s", seen[of], of)
		}
	}
}

// places is where in memory each item of all lists of a program stands, spare room too.
func places(l []syn.Node) []any {
	var all []any
	vars := func(l []syn.Var) {
		for k := range l[:cap(l)] {
			all = append(all, &l[:cap(l)][k])
		}
	}
	var exprs func(l []syn.Expr)
	exprs = func(l []syn.Expr) {
		for k := range l[:cap(l)] {
			e := &l[:cap(l)][k]
			all = append(all, e)
			exprs(e.Kids)
		}
	}
	for k := range l[:cap(l)] {
		n := &l[:cap(l)][k]
		all = append(all, n)
		vars(n.In)
		vars(n.Out)
		vars(n.Locals)
		for i := range n.Eqs[:cap(n.Eqs)] {
			q := &n.Eqs[:cap(n.Eqs)][i]
			all = append(all, q)
			exprs(q.E.Kids)
		}
	}
	return all
}

// holdApart holds that no two lists share a place.
func holdApart(t *testing.T, text string, all []any) {
	t.Helper()
	seen := map[any]struct{}{}
	for _, at := range all {
		seen[at] = struct{}{}
	}
	if len(seen) < len(all) {
		t.Errorf("R4: of %d places of %s only %d are not shared", len(all), text, len(seen))
	}
}

// spoil writes over all that a program has, spare room too.
func spoil(l []syn.Node) {
	for _, at := range places(l) {
		switch at := at.(type) {
		case *syn.Node:
			at.Name, at.At = "spoilt", -1
		case *syn.Var:
			*at = syn.Var{Name: "spoilt", Kind: -1}
		case *syn.Eq:
			at.Name, at.E.Op = "spoilt", "spoilt"
		case *syn.Expr:
			at.Op, at.Name, at.N = "spoilt", "spoilt", -1
		}
	}
}

// roomy is a program whose lists all have spare room, with something in it.
func roomy(l []syn.Node) []syn.Node {
	var exprs func(l []syn.Expr) []syn.Expr
	exprs = func(l []syn.Expr) []syn.Expr {
		var all []syn.Expr
		for _, e := range l {
			e.Kids = exprs(e.Kids)
			all = append(all, e)
		}
		return append(all, syn.Expr{Op: "spare"}, syn.Expr{Op: "spare"})[:len(l)]
	}
	vars := func(l []syn.Var) []syn.Var {
		return append(slices.Clone(l), syn.Var{Name: "spare"}, syn.Var{Name: "spare"})[:len(l)]
	}
	var all []syn.Node
	for _, n := range l {
		n.In, n.Out, n.Locals = vars(n.In), vars(n.Out), vars(n.Locals)
		n.Eqs = append(slices.Clone(n.Eqs), syn.Eq{Name: "spare"}, syn.Eq{Name: "spare"})[:len(n.Eqs)]
		for i := range n.Eqs {
			n.Eqs[i].E.Kids = exprs(n.Eqs[i].E.Kids)
		}
		all = append(all, n)
	}
	return append(all, syn.Node{Name: "spare"}, syn.Node{Name: "spare"})[:len(l)]
}

// dumpRoom tells all of a program, spare room too.
func dumpRoom(l []syn.Node) string {
	var s strings.Builder
	for _, at := range places(l) {
		switch at := at.(type) {
		case *syn.Node:
			fmt.Fprintln(&s, at.Name, at.At, len(at.In), len(at.Out), len(at.Locals), len(at.Eqs))
		case *syn.Var:
			fmt.Fprintln(&s, *at)
		case *syn.Eq:
			fmt.Fprintln(&s, at.Name, at.At, at.E.Op, at.E.Name, at.E.N, at.E.At, len(at.E.Kids))
		case *syn.Expr:
			fmt.Fprintln(&s, at.Op, at.Name, at.N, at.At, len(at.Kids))
		}
	}
	return s.String()
}

// R4, R5: Flat changes nothing of what is handed in, and shares nothing with it, nor with what it told ahead; what it told
// may be written to.
func TestFlatIsNew(t *testing.T) {
	for _, text := range append(slices.Clone(samples), one("x")) {
		for _, l := range [][]syn.Node{program(t, text), roomy(program(t, text))} {
			was := dumpRoom(l)
			a, b := holdFlat(t, l), holdFlat(t, l)
			want := dump([]syn.Node{b})
			if strings.Contains(want, "spare") || want != dump([]syn.Node{holdFlat(t, program(t, text))}) {
				t.Errorf("P13.1: Flat with spare room: %s", want)
			}
			all := places(l)
			all = append(all, places([]syn.Node{a})...)
			holdApart(t, text, append(all, places([]syn.Node{b})...))
			spoil([]syn.Node{a})
			if dump([]syn.Node{b}) != want || dumpRoom(l) != was {
				t.Errorf("R4: writing to what Flat told of %s changes what was handed in, or told", text)
			}
			spoil(l)
			if dump([]syn.Node{b}) != want {
				t.Errorf("R4: what Flat told is changed by writing to what was handed in")
			}
		}
	}
}

// P13.1, R1: calls within calls, as deep as nodes and expressions may be.
func TestDeepCalls(t *testing.T) {
	text := "node a0(x: int) returns (y: int); let y = 0 fby (x + 1); tel "
	for k := 1; k < api.MaxNodes; k++ {
		e := "a" + strconv.Itoa(k-1) + "(x - 1)"
		for range 12 {
			e = "(- " + e + ")"
		}
		text += "node a" + strconv.Itoa(k) + "(x: int) returns (y: int); let y = " + e + "; tel "
	}
	l := program(t, text)
	if got := holdMeans(t, l, rows("5;6;7")); got != "0;-25;-24" {
		t.Errorf("P13.1: Flat of deep calls means %s", got)
	}
	e := "x"
	for range api.MaxDepth - 2 {
		e = "a0(" + e + ")"
	}
	l = program(t, "node a0(x: int) returns (y: int); let y = 0 fby (x + 1); tel node f(x: int) returns (y: int); let y = "+e+"; tel")
	in := slices.Repeat([]api.Row{{7}}, 40)
	if got := holdMeans(t, l, in); !strings.HasSuffix(got, ";27;35;35;35;35;35;35;35;35;35;35;35;35") {
		t.Errorf("P13.1: Flat of calls in one another means %s", got)
	}
}

// P13.1, R1: nodes of as many names as may be, and of as many arguments.
func TestWideCalls(t *testing.T) {
	text, sum, args := "node g(", "0", "0"
	for k := range api.MaxVars - 1 {
		if k > 0 {
			text, args = text+", ", args+", "+[]string{"x", "- x", "3", "x + y0", "g2(x)"}[k%5]
		}
		text += "a" + strconv.Itoa(k)
		sum += []string{" + ", " - "}[k%2] + "a" + strconv.Itoa(k) + " * " + strconv.Itoa(k)
	}
	text = "node g2(a: int) returns (b: int); let b = a fby a * 2; tel " + text + ": int) returns (y: int); let y = " + sum + "; tel "
	l := program(t, text+"node f(x: int) returns (y, y0: int); let y0 = x * x; y = g("+args+") - (0 fby g("+args+")); tel")
	want, _ := mean.Run(l, rows("5;6;7;8"))
	if got := holdMeans(t, l, rows("5;6;7;8")); got != written(want) || flat.Count(l) != 2+2*13-2+2 {
		t.Errorf("P13.1: Flat of wide calls means %s, want %s; Count: %d", got, written(want), flat.Count(l))
	}
}

// R1: trees of 2^16 parts nested in one another, in the main node, in one that is called and in an argument, as layers ahead
// have no fault of them.
func TestDeepTrees(t *testing.T) {
	const count = 1<<16 - 4
	deep := func(e syn.Expr) syn.Expr {
		for k := range count {
			if k%2 == 0 {
				e = syn.Expr{Op: "neg", Kids: []syn.Expr{e}}
			} else {
				e = syn.Expr{Op: "fby", Kids: []syn.Expr{e, {Op: "int", N: 3}}}
			}
		}
		return e
	}
	x := syn.Expr{Op: "var", Name: "x"}
	vars := func(name string) []syn.Var { return []syn.Var{{Name: name, Kind: api.Int}} }
	node := func(name string, e syn.Expr) syn.Node {
		return syn.Node{Name: name, In: vars("x"), Out: vars("y"), Eqs: []syn.Eq{{Name: "y", E: e}}}
	}
	call := func(e syn.Expr) syn.Expr { return syn.Expr{Op: "call", Name: "g", Kids: []syn.Expr{e}} }
	for name, l := range map[string][]syn.Node{
		"the main node":           {node("f", deep(x))},
		"one that is called":      {node("g", deep(x)), node("f", call(x))},
		"an argument":             {node("g", x), node("f", call(deep(x)))},
		"what stands round a one": {node("g", x), node("f", deep(call(x)))},
	} {
		n, e := flat.Flat(l)
		if e != api.OK || len(n.Eqs) != 1+len(n.Locals) {
			t.Fatalf("P13.1: Flat of deep trees in %s: %v, %d equations", name, e, len(n.Eqs))
		}
		want, _ := mean.Run(l, rows("5;6"))
		if out, e := mean.Run([]syn.Node{n}, rows("5;6")); e != api.OK || written(out) != written(want) {
			t.Errorf("P13.1: Flat of deep trees in %s means %v, %s, want %s", name, e, written(out), written(want))
		}
	}
}

// P13.1, R1: the greatest programs come to an end soon, with all that the layers ask of their flat nodes.
func TestGreatPrograms(t *testing.T) {
	terms := strings.Repeat(" + x", 148)
	ahead := "node g(x: int) returns (y: int); var a, b, d, e, h, i, j, k: int; let "
	for _, name := range strings.Fields("a b d e h i j k y") {
		ahead += name + " = x" + terms + "; "
	}
	l := program(t, ahead+"tel "+one("0"+strings.Repeat(" + g(x)", 75)))
	if got := holdMeans(t, l, rows("1 0;2 0")); got != "11175;22350" {
		t.Errorf("P13.1: Flat of a great program means %s", got)
	}
	// A row of Ons in each call, on a clock of its own: a row as long as calls are deep.
	text := "node a0(c: bool; x: int) returns (y: int); var p: int when c; let p = 0 fby (x when c); y = merge c (p) (1); tel "
	for k := 1; k < api.MaxNodes; k++ {
		text += "node a" + strconv.Itoa(k) + "(c: bool; x: int) returns (y: int); let y = merge c (a" + strconv.Itoa(k-1) + "(true -> c when c, x when c + 1)) (" + strconv.Itoa(k) + "); tel "
	}
	holdMeans(t, program(t, text), rows("1 5;1 6;0 7;1 8"))
}

// P13.1, R1, T1: any text, of rows made of any bytes: what its flat node is, and means.
func FuzzFlat(f *testing.F) {
	for _, text := range samples {
		f.Add(text, []byte{5, 0, 6, 1, 7, 1, 248, 0, 9, 1})
	}
	f.Add(inputs+one("g(x + 1, c) + g(x, not c)"), []byte{1, 0, 2, 1, 3, 1})
	f.Add(sized+one(calls("n98", 11)), []byte{})
	f.Fuzz(func(t *testing.T, text string, b []byte) {
		l, fault := front.Check(text)
		if fault.Err != api.OK {
			return
		}
		vars := front.Main(l).In
		var in []api.Row
		for len(vars) > 0 && len(b) >= len(vars) && len(in) < 20 {
			var r api.Row
			for k, v := range vars {
				n := int64(int8(b[k]))
				if v.Kind == api.Bool {
					n &= 1
				}
				r = append(r, n)
			}
			in, b = append(in, r), b[len(vars):]
		}
		checkProgram(t, l, in)
	})
}
