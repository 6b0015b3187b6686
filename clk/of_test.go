package clk_test

import (
	"fmt"
	"slices"
	"strconv"
	"testing"

	"escapement/api"
	"escapement/clk"
	"escapement/names"
	"escapement/syn"
	"escapement/typ"
)

// parse reads a program that neither syn nor names nor typ has a fault of.
func parse(t *testing.T, promise, text string) []syn.Node {
	t.Helper()
	l, f := syn.Parse(text)
	if f.Err == api.OK {
		f = names.Check(l)
	}
	if f.Err == api.OK {
		f = typ.Check(l)
	}
	if f.Err != api.OK {
		t.Fatalf("%s: %q is no program: %v at %d", promise, text, f.Err, f.At)
	}
	return l
}

// row is a clock as it is written here: +c a step of c's truth, -c one of its falsehood.
func row(c []clk.Step) string {
	s := ""
	for _, step := range c {
		s += map[bool]string{false: "+", true: "-"}[step.Not] + step.Name
	}
	return s
}

// answer is what Expr tells, as it is written here: a row, or one of these words.
func answer(n syn.Node, e syn.Expr) string {
	c, any, ok := clk.Expr(n, e)
	switch {
	case !ok && (any || len(c) > 0):
		return "a fault and " + row(c)
	case !ok:
		return "fault"
	case any && len(c) > 0:
		return "any and " + row(c)
	case any:
		return "any"
	}
	return row(c)
}

// declares has names on seven clocks: x, c, d and y, z on none, the others as their last letters have it.
const declares = "node g(a, b: int) returns (y: int); let y = a; tel node k() returns (y: bool); let y = true; tel " +
	"node f(x: int; c, d: bool) returns (y: int; z: bool); " +
	"var l: int; e: bool when c; p: int when c; q: int when not c; h: bool when not c; r: int when e; s: int when not e; w: bool when e; u: int when w; v: int when not h; m: int when z; " +
	"let l = 1; e = true; p = 1; q = 1; h = true; r = 1; s = 1; w = true; u = 1; v = 1; m = 1; z = true; y = "

// clocks are those of what declares has.
var clocks = map[string]string{
	"x": "", "c": "", "d": "", "y": "", "z": "", "l": "", "e": "+c", "p": "+c", "q": "-c", "h": "-c", "r": "+c+e", "s": "+c-e", "w": "+c+e", "u": "+c+e+w", "v": "-c-h", "m": "+z",
}

// program is what declares has, with that as y's expression.
func program(t *testing.T, promise, e string) syn.Node {
	t.Helper()
	return parse(t, promise, declares+e+"; tel")[2]
}

// P8.2: each declared name's clock, and none of what isn't declared.
func TestOf(t *testing.T) {
	n := program(t, "P8.2", "x")
	for name, want := range clocks {
		if c := clk.Of(n, name); row(c) != want {
			t.Errorf("P8.2: Of(%s): %s, want %s", name, row(c), want)
		}
	}
	for _, name := range []string{"a", "f", "g", "", "X", "ee", "+", "1"} {
		if c := clk.Of(n, name); len(c) != 0 {
			t.Errorf("P8.2: Of(%s): %s", name, row(c))
		}
	}
	if c := clk.Of(syn.Node{}, "x"); len(c) != 0 {
		t.Errorf("P8.2: Of in the zero Node: %s", row(c))
	}
}

// P8.2: the clock hangs on the node that is asked: the same names are on others elsewhere.
func TestOfNodes(t *testing.T) {
	l := parse(t, "P8.2", "node f(c: bool) returns (y: int); var a: int when c; let y = 1; a = 1; tel "+
		"node g(a: bool) returns (c: bool; y: int); var b: int when not a; let c = a; y = 1; b = 1; tel "+
		"node h(b: bool) returns (y: int); var c: bool when not b; a: int when not c; let y = 1; a = 1; c = true; tel")
	for name, want := range map[string][]string{"a": {"+c", "", "-b-c"}, "b": {"", "-a", ""}, "c": {"", "", "-b"}, "y": {"", "", ""}} {
		for i, n := range l {
			if c := clk.Of(n, name); row(c) != want[i] {
				t.Errorf("P8.2: Of(%s) in node %d: %s, want %s", name, i, row(c), want[i])
			}
			c, any, ok := clk.Expr(n, syn.Expr{Op: "var", Name: name})
			if _, declared := names.Find(n, name); ok != declared || any || row(c) != want[i] {
				t.Errorf("P8.1: Expr(%s) in node %d: %s %v %v, want %s", name, i, row(c), any, ok, want[i])
			}
		}
	}
}

// P8.2: a chain of locals, each on the one ahead, by turns on its truth and its falsehood: the row has its steps in order.
func TestOfChain(t *testing.T) {
	n := syn.Node{In: []syn.Var{{Name: "v0", Kind: api.Bool}}}
	var want []clk.Step
	for k := 1; k < api.MaxVars; k++ {
		on := clk.Step{Name: "v" + strconv.Itoa(k-1), Not: k%2 == 0}
		n.Locals = append(n.Locals, syn.Var{Name: "v" + strconv.Itoa(k), Kind: api.Bool, On: on.Name, Not: on.Not})
		want = append(want, on)
		if c := clk.Of(n, "v"+strconv.Itoa(k)); !slices.Equal(c, want) {
			t.Errorf("P8.2: Of the local %d: %s, want %s", k, row(c), row(want))
		}
		c, any, ok := clk.Expr(n, syn.Expr{Op: "when", Name: on.Name, N: int64(k % 2), Kids: []syn.Expr{{Op: "var", Name: on.Name}}})
		if !ok || any || !slices.Equal(c, want) {
			t.Errorf("P8.1: Expr of a when %d: %s %v %v, want %s", k, row(c), any, ok, row(want))
		}
	}
}

// P8.1: an input's clock, and an output's, are the empty one, whatever stands in its On, which no text fills.
func TestOfInputsOn(t *testing.T) {
	n := syn.Node{In: []syn.Var{{Name: "c", Kind: api.Bool}, {Name: "a", Kind: api.Int, On: "c"}}, Out: []syn.Var{{Name: "y", Kind: api.Int, On: "c", Not: true}}}
	for _, name := range []string{"a", "y"} {
		if c := clk.Of(n, name); len(c) != 0 {
			t.Errorf("P8.2: Of(%s): %s", name, row(c))
		}
	}
}

// P8.1: of several that are declared so, which names has a fault of, the one that names finds; and names that hang on
// themselves, or on what stands behind them, which names has a fault of, too, come to an end.
func TestOfFaultyNames(t *testing.T) {
	n := syn.Node{
		In:     []syn.Var{{Name: "c", Kind: api.Bool}, {Name: "a", Kind: api.Bool}},
		Locals: []syn.Var{{Name: "b", Kind: api.Bool, On: "c"}, {Name: "a", Kind: api.Bool, On: "b"}, {Name: "b", Kind: api.Bool, On: "c", Not: true}, {Name: "s", On: "s"}, {Name: "t", On: "w"}, {Name: "w", On: "t"}, {Name: "b", On: "b"}, {Name: "z", Not: true}},
	}
	for name, want := range map[string]string{"a": "", "b": "+c", "s": "", "t": "", "w": "", "z": ""} {
		if c := clk.Of(n, name); row(c) != want {
			t.Errorf("P8.2: Of(%s): %s, want %s", name, row(c), want)
		}
	}
	for _, name := range []string{"s", "t", "w"} {
		if got := answer(n, syn.Expr{Op: "var", Name: name}); got != "fault" {
			t.Errorf("P8.2: Expr(%s): %s, want a fault", name, got)
		}
	}
}

// others are the Ops whose kids' clocks must be one, or any, each with how many kids it has.
var others = map[string]int{
	"call": 3, "not": 1, "neg": 1, "pre": 1, "+": 2, "-": 2, "*": 2, "/": 2, "mod": 2, "=": 2, "<>": 2, "<": 2, "<=": 2, ">": 2, ">=": 2, "and": 2, "or": 2, "xor": 2, "->": 2, "fby": 2, "if": 3,
}

// kinds of kids: one on each of some clocks, and two that may be there whenever they are wanted.
var kidTexts = []string{"1", "pre 1", "x", "p", "q", "r", "s", "u", "1 when c", "x when not c", "p when e", "1 when not h", "merge c (p) (q)", "merge e 1 1"}

var kidClocks = []string{"any", "any", "", "+c", "-c", "+c+e", "+c-e", "+c+e+w", "+c", "-c", "+c+e", "-c-h", "", "+c"}

// kidRows are all rows of so many kids, by their numbers.
func kidRows(n int) [][]int {
	rows := [][]int{nil}
	for range n {
		var more [][]int
		for _, r := range rows {
			for k := range kidTexts {
				more = append(more, append(slices.Clone(r), k))
			}
		}
		rows = more
	}
	return rows
}

// kidsAre reads the kids, and tells the numbers' clocks.
func kidsAre(all []syn.Expr, numbers []int) (kids []syn.Expr, are []string) {
	for _, k := range numbers {
		kids, are = append(kids, all[k]), append(are, kidClocks[k])
	}
	return kids, are
}

// allKids reads kidTexts, and holds each one's clock.
func allKids(t *testing.T) (n syn.Node, all []syn.Expr) {
	t.Helper()
	for k, text := range kidTexts {
		n = program(t, "P8.1", text)
		all = append(all, n.Eqs[len(n.Eqs)-1].E)
		if got := answer(n, all[k]); got != kidClocks[k] {
			t.Errorf("P8.1: Expr(%s): %s, want %s", text, got, kidClocks[k])
		}
	}
	return n, all
}

// P8.1: each part but when and merge with kids on all clocks.
func TestMeetings(t *testing.T) {
	n, all := allKids(t)
	for op, count := range others {
		for _, numbers := range kidRows(count) {
			kids, are := kidsAre(all, numbers)
			is := slices.DeleteFunc(slices.Clone(are), func(c string) bool { return c == "any" })
			want := "any"
			if len(is) > 0 {
				want = is[0]
			}
			if len(slices.Compact(is)) > 1 {
				want = "fault"
			}
			if got := answer(n, syn.Expr{Op: op, Name: "g", Kids: kids}); got != want {
				t.Errorf("P8.1: Expr(%s of %q): %s, want %s", op, are, got, want)
			}
		}
	}
}

// P8.1: a call of any number of arguments: of none it is any.
func TestCalls(t *testing.T) {
	n, all := allKids(t)
	call := syn.Expr{Op: "call", Name: "k"}
	if got := answer(n, call); got != "any" {
		t.Errorf("P8.1: Expr(k()): %s", got)
	}
	for k, kid := range all {
		for count := range 6 {
			call.Kids = append(call.Kids, kid)
			if got := answer(n, call); got != kidClocks[k] {
				t.Errorf("P8.1: Expr of a call of %d times %s: %s", count, kidTexts[k], got)
			}
		}
		call.Kids = append(call.Kids, all[2])
		want := "fault"
		if kidClocks[k] == "any" || kidClocks[k] == "" {
			want = ""
		}
		if got := answer(n, call); got != want {
			t.Errorf("P8.1: Expr of a call of %s and x: %s, want %s", kidTexts[k], got, want)
		}
		call.Kids = nil
	}
}

// P8.1: when: its kid on its name's own clock, or any.
func TestWhens(t *testing.T) {
	n, all := allKids(t)
	for _, name := range []string{"c", "d", "z", "e", "h", "w"} {
		for k, kid := range all {
			for not, sign := range []string{"-", "+"} {
				want := "fault"
				if kidClocks[k] == "any" || kidClocks[k] == clocks[name] {
					want = clocks[name] + sign + name
				}
				if got := answer(n, syn.Expr{Op: "when", Name: name, N: int64(not), Kids: []syn.Expr{kid}}); got != want {
					t.Errorf("P8.1: Expr((%s) when %s%s): %s, want %s", kidTexts[k], sign, name, got, want)
				}
			}
		}
	}
}

// P8.1: merge: its first kid on its name's own clock and the true step, its second on the false one, or any; its own is
// its name's, if both are any, too.
func TestMerges(t *testing.T) {
	n, all := allKids(t)
	for _, name := range []string{"c", "d", "z", "e", "h", "w"} {
		for _, numbers := range kidRows(2) {
			kids, are := kidsAre(all, numbers)
			want := "fault"
			if (are[0] == "any" || are[0] == clocks[name]+"+"+name) && (are[1] == "any" || are[1] == clocks[name]+"-"+name) {
				want = clocks[name]
			}
			if got := answer(n, syn.Expr{Op: "merge", Name: name, Kids: kids}); got != want {
				t.Errorf("P8.1: Expr(merge %s of %q): %s, want %s", name, are, got, want)
			}
		}
	}
}

// P8.1: expressions of several parts, as they are written.
func TestTexts(t *testing.T) {
	for text, want := range map[string]string{
		"1": "any", "- 1 + 2 * pre 3": "any", "0 -> 1 fby 2": "any", "if true then 1 else 2": "any", "g(1, 2)": "any", "if k() then 1 else 2": "any", "g(g(1, 2), 3)": "any",
		"x": "", "1 + x": "", "x + 1": "", "0 -> pre x": "", "x fby 1": "", "if c then 1 else 2": "", "if true then 1 else x": "", "g(1, x)": "", "if k() then x else 2": "",
		"p": "+c", "p + 1 when c": "+c", "(x + 1) when c": "+c", "x when c + p": "+c", "x when c when e": "+c+e", "(x when c) when not e": "+c-e", "1 when e + r": "+c+e", "1 when e when w + u": "+c+e+w", "pre u": "+c+e+w",
		"g(p, 1 when c)": "+c", "g(1, 1) when e": "+c+e", "if e then p else 1": "+c", "if w then r else 0 -> pre r": "+c+e",
		"merge c 1 2": "", "merge c (p) 1": "", "merge c 1 (q)": "", "merge c (p) (q)": "", "merge c (x when c) (x when not c)": "", "merge e (r) (s)": "+c", "merge c (merge e (r) (s)) (q)": "", "merge c (merge e (merge w (u) 1) 1) 1": "",
		"merge c (merge e 1 1) (merge h 1 1)": "", "merge e (p when e) (p when not e)": "+c", "merge c 1 2 + x": "", "merge e 1 2 + p": "+c", "(merge e 1 2) when e": "+c+e", "merge z (m) 1": "",
		"x + p": "fault", "x + (x when c)": "fault", "x when c + x": "fault", "p + q": "fault", "p + r": "fault", "r + u": "fault", "q + v": "fault", "1 when d + p": "fault", "x when c when w": "fault", "p when c": "fault", "r when e": "fault", "x when e": "fault", "x when not e": "fault", "q when e": "fault",
		"merge c (q) (p)": "fault", "merge c (p) (p)": "fault", "merge c x x": "fault", "merge c (x) 1": "fault", "merge c 1 (x)": "fault", "merge e (p) 1": "fault", "merge e 1 (q)": "fault", "merge c (r) 1": "fault", "merge c (merge c 1 1) 1": "fault", "merge d (p) (q)": "fault", "merge e 1 1 + x": "fault", "merge c 1 1 + p": "fault",
		"g(x, p)": "fault", "g(1, x + p)": "fault", "if c then p else p": "fault", "if e then p else x": "fault", "x -> p": "fault", "p fby x": "fault", "pre (x + p)": "fault", "- (x * p)": "fault", "(x + p) when c": "fault", "merge c (x + p) 1": "fault", "merge c (p) (x + p)": "fault", "if x = p then 1 else 2": "fault",
	} {
		n := program(t, "P8.1", text)
		if got := answer(n, n.Eqs[len(n.Eqs)-1].E); got != want {
			t.Errorf("P8.1: Expr(%s): %s, want %s", text, got, want)
		}
	}
}

// P8.2, R1: what names or the table of expressions has not has an end.
func TestOddTrees(t *testing.T) {
	n := program(t, "P8.2", "x")
	one, x := syn.Expr{Op: "int"}, syn.Expr{Op: "var", Name: "x"}
	for _, e := range []syn.Expr{
		{Op: "var"}, {Op: "var", Name: "a"}, {Op: "when", Name: "a", Kids: []syn.Expr{one}}, {Op: "merge", Name: "a", Kids: []syn.Expr{one, one}}, {Op: "not", Kids: []syn.Expr{{Op: "var", Name: "a"}}},
		{Op: "when", Name: "c"}, {Op: "when", Name: "c", Kids: []syn.Expr{x, x}}, {Op: "merge", Name: "c"}, {Op: "merge", Name: "c", Kids: []syn.Expr{one}}, {Op: "merge", Name: "c", Kids: []syn.Expr{one, one, one}},
	} {
		if got := answer(n, e); got != "fault" {
			t.Errorf("P8.2: Expr(%+v): %s, want a fault", e, got)
		}
	}
	for _, e := range []syn.Expr{{}, {Op: "what"}, {Op: "when not", Name: "c", Kids: []syn.Expr{one}}, {Op: "int", N: -1, At: -1}, {Op: "if"}, {Op: "what", Kids: []syn.Expr{{}, {}}}} {
		if got := answer(n, e); got != "any" {
			t.Errorf("P8.1: Expr(%+v): %s, want any", e, got)
		}
	}
	if got := answer(syn.Node{}, one); got != "any" {
		t.Errorf("P8.1: Expr in the zero Node: %s", got)
	}
	if got := fmt.Sprint(clk.Expr(n, syn.Expr{Op: "+", Kids: []syn.Expr{x, {Op: "var", Name: "p"}}})); got != "[] false false" {
		t.Errorf("R2: Expr(x + p): %s", got)
	}
}
