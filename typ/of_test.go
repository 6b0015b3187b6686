package typ_test

import (
	"math"
	"strings"
	"testing"

	"escapement/api"
	"escapement/names"
	"escapement/syn"
	"escapement/typ"
)

// parse reads a program that syn does not refuse.
func parse(t *testing.T, promise, text string) []syn.Node {
	t.Helper()
	l, f := syn.Parse(text)
	if f.Err != api.OK {
		t.Fatalf("%s: Parse(%q): %v at %d", promise, text, f.Err, f.At)
	}
	return l
}

// rules are P7.1's: of an Op the kinds of its name (of a var, when, merge) and its kids, and behind the > its own.
var rules = map[string]string{
	"int":   ">i",
	"bool":  ">b",
	"var":   "b>b i>i",
	"not":   "b>b",
	"neg":   "i>i",
	"pre":   "b>b i>i",
	"+":     "ii>i",
	"-":     "ii>i",
	"*":     "ii>i",
	"/":     "ii>i",
	"mod":   "ii>i",
	"=":     "bb>b ii>b",
	"<>":    "bb>b ii>b",
	"<":     "ii>b",
	"<=":    "ii>b",
	">":     "ii>b",
	">=":    "ii>b",
	"and":   "bb>b",
	"or":    "bb>b",
	"xor":   "bb>b",
	"->":    "bb>b ii>i",
	"fby":   "bb>b ii>i",
	"when":  "bb>b bi>i",
	"if":    "bbb>b bii>i",
	"merge": "bbb>b bii>i",
}

// named are the Ops with the name of what is declared.
func named(op string) bool { return op == "var" || op == "when" || op == "merge" }

// byRule tells what a rule makes of kinds; n: it has none for these.
func byRule(rule, kinds string) string {
	for _, r := range strings.Fields(rule) {
		if was, is, _ := strings.Cut(r, ">"); was == kinds {
			return is
		}
	}
	return "n"
}

var letters = map[api.Kind]string{api.None: "n", api.Bool: "b", api.Int: "i"}

// kindRows are all rows of so many kinds.
func kindRows(n int) []string {
	rows := []string{""}
	for range n {
		var more []string
		for _, r := range rows {
			more = append(more, r+"b", r+"i")
		}
		rows = more
	}
	return rows
}

// kidsOf are expressions of those kinds: what is declared, or written.
func kidsOf(kinds string, declared bool) []syn.Expr {
	var l []syn.Expr
	for _, k := range kinds {
		e := syn.Expr{Op: map[rune]string{'b': "bool", 'i': "int"}[k]}
		if declared {
			e = syn.Expr{Op: "var", Name: map[rune]string{'b': "c", 'i': "x"}[k]}
		}
		l = append(l, e)
	}
	return l
}

const declares = "node f(x: int; c: bool) returns (y: int); let y = x; tel"

// P7.1: each part with kids of all kinds, up to one more than it may have, and with a name of each kind, and of none.
func TestRules(t *testing.T) {
	l := parse(t, "P7.1", declares)
	for op, rule := range rules {
		for kids := range 5 {
			for _, kinds := range kindRows(kids) {
				for name, its := range map[string]string{"c": "b", "x": "i", "q": "n", "": "n"} {
					if !named(op) {
						its = ""
					}
					for _, declared := range []bool{false, true} {
						e := syn.Expr{Op: op, Name: name, N: 1, Kids: kidsOf(kinds, declared)}
						want := byRule(rule, its+kinds)
						if k := typ.Of(l, 0, e); letters[k] != want {
							t.Errorf("P7.1: Of(%s %q of %q): %s, want %s", op, name, kinds, letters[k], want)
						}
					}
				}
			}
		}
	}
}

// P7.1: each call with arguments of all kinds, as many as its node has inputs, and others.
func TestCallRules(t *testing.T) {
	const text = "node none() returns (y: bool); let y = true; tel node one(a: int) returns (y: bool); let y = true; tel " +
		"node two(a: int; b: bool) returns (y: int); let y = a; tel node three(a: bool; b: int; c: int) returns (y: int); let y = b; tel " +
		"node pair(a: int) returns (y, z: int); let y = a; z = a; tel node f(x: int; c: bool) returns (y: int); let y = x; tel node later(a: int) returns (y: int); let y = a; tel"
	l := parse(t, "P7.1", text)
	for name, rule := range map[string]string{"none": ">b", "one": "i>b", "two": "ib>i", "three": "bii>i", "pair": "", "f": "", "later": "", "x": "", "q": "", "": ""} {
		for kids := range 5 {
			for _, kinds := range kindRows(kids) {
				want := byRule(rule, kinds)
				if k := typ.Of(l, 5, syn.Expr{Op: "call", Name: name, Kids: kidsOf(kinds, true)}); letters[k] != want {
					t.Errorf("P7.1: Of(%s of %q): %s, want %s", name, kinds, letters[k], want)
				}
			}
		}
	}
}

// P7.1: a var is of the kind that it is declared with: an input, an output, a local, on whatever it hangs.
func TestKindsOfVars(t *testing.T) {
	const text = "node g(q: int) returns (r: int); let r = q; tel node f(a: int; b: bool) returns (c: int; d: bool); var e: int; g: bool; h: int when b; k: bool when not d; let c = 1; d = true; e = 1; g = b; h = 1; k = true; tel"
	l := parse(t, "P7.1", text)
	for name, want := range map[string]string{"a": "i", "b": "b", "c": "i", "d": "b", "e": "i", "g": "b", "h": "i", "k": "b", "q": "n", "r": "n", "f": "n", "": "n", "A": "n"} {
		if k := typ.Of(l, 1, syn.Expr{Op: "var", Name: name}); letters[k] != want {
			t.Errorf("P7.1: Of(%s): %s, want %s", name, letters[k], want)
		}
	}
}

// P7.1: of several that are declared so, which names has a fault of, Of takes the one that names finds.
func TestKindsOfSeveral(t *testing.T) {
	n := parse(t, "P7.1", "node f(a: int; a: bool) returns (a, b: bool; b: int); var a, b: int; c: bool; c: int; let tel")
	for _, name := range []string{"a", "b", "c"} {
		v, _ := names.Find(n[0], name)
		if k := typ.Of(n, 0, syn.Expr{Op: "var", Name: name}); k != v.Kind {
			t.Errorf("P7.1: Of(%s): %s, and names finds one of %s", name, letters[k], letters[v.Kind])
		}
	}
}

// P7.1: expressions of several parts, as they are written.
func TestKindsOfTexts(t *testing.T) {
	const ahead = "node g(a: int; b: bool) returns (y: bool); let y = b; tel node f(x: int; c: bool) returns (y: int; z: bool); let z = c; y = "
	for text, want := range map[string]string{
		"x + 1 * 2 - - x / 3 mod pre y":               "i",
		"x < 1 and x >= y or not c xor 1 = x":         "b",
		"(x = 1) = (1 <> x)":                          "b",
		"c -> pre z fby true":                         "b",
		"0 -> pre (x + y)":                            "i",
		"(x when c) when not z":                       "i",
		"(c when c) when not z":                       "b",
		"if x > 0 then if c then x else 1 else -x":    "i",
		"if c then c else if c then z else true":      "b",
		"merge c (x when c) (merge z 1 2 when not c)": "i",
		"merge c (x = 1) (g(1, c))":                   "b",
		"g(x + 1, g(x, g(1, z)))":                     "b",
		"if g(1, c) then 1 else 2":                    "i",
		"x + (1 = 1)":                                 "n",
		"x = 1 = c":                                   "",
		"x < 1 < 2":                                   "",
		"(x < 1) < 2":                                 "n",
		"not x = 1":                                   "n",
		"- (x = 1)":                                   "n",
		"c -> 1 -> 2":                                 "n",
		"1 fby c fby 2":                               "n",
		"pre (c + 1)":                                 "n",
		"(1 + c) = 2":                                 "n",
		"if c then 1 + c else 2":                      "n",
		"if c then 1 else 2 + c":                      "n",
		"if not 1 then 1 else 2":                      "n",
		"merge c (1 when x) 2":                        "n",
		"g(1 + c, c)":                                 "n",
		"g(1, g(c, c))":                               "n",
		"if g(1, 1) then c else c":                    "n",
		"(1 + c) when c":                              "n",
		"not (pre (pre (- (x -> c))))":                "n",
	} {
		l, f := syn.Parse(ahead + text + "; tel")
		if (f.Err == api.OK) != (want != "") {
			t.Errorf("P7.1: Parse(%s): %v at %d", text, f.Err, f.At)
		}
		if f.Err != api.OK || want == "" {
			continue
		}
		if k := typ.Of(l, 1, l[1].Eqs[1].E); letters[k] != want {
			t.Errorf("P7.1: Of(%s): %s, want %s", text, letters[k], want)
		}
	}
}

// P7.2: names' faults are an expression's, too, wherever in it they are.
func TestNamesFaults(t *testing.T) {
	const text = "node one(a: int) returns (y: int); let y = a; tel node pair() returns (y, z: int); let y = 1; z = 2; tel node f(x: int; c: bool) returns (y: int); let y = x; tel node later() returns (y: int); let y = 1; tel"
	l := parse(t, "P7.2", text)
	for _, bad := range []string{"q", "one", "x when q", "c when not one", "merge q 1 2", "q()", "one()", "one(1, 2)", "pair()", "f(x, c)", "later()", "x()"} {
		for _, around := range []string{"#", "pre (#)", "1 + (#)", "(#) = (#)", "if c then (#) else 1", "(#) when c", "merge c 1 (#)", "one(#)", "not (0 = one(pre (#)))"} {
			e := strings.ReplaceAll(around, "#", bad)
			m := parse(t, "P7.2", "node h() returns (y: int); let y = "+e+"; tel")
			if k := typ.Of(l, 2, m[0].Eqs[0].E); k != api.None {
				t.Errorf("P7.2: Of(%s): %s", e, letters[k])
			}
		}
	}
}

// P7.2: Of tells the kind in that node: there are others elsewhere, and no such node has none.
func TestOfNodes(t *testing.T) {
	const text = "node f(x: int) returns (y: bool); let y = x = 1; tel node g(x: bool) returns (y: int); let y = 1; tel node h(z: int) returns (y: int); let y = z; tel"
	l := parse(t, "P7.2", text)
	for name, want := range map[string]string{"x": "ibn", "y": "bii", "z": "nni"} {
		for node := range l {
			if k := typ.Of(l, node, syn.Expr{Op: "var", Name: name}); letters[k] != want[node:node+1] {
				t.Errorf("P7.2: Of(%s) in node %d: %s, want %s", name, node, letters[k], want[node:node+1])
			}
		}
	}
	for _, c := range []struct{ call, want string }{{"f", "nbb"}, {"g", "nnn"}, {"h", "nnn"}} {
		for node := range l {
			if k := typ.Of(l, node, syn.Expr{Op: "call", Name: c.call, Kids: []syn.Expr{{Op: "int"}}}); letters[k] != c.want[node:node+1] {
				t.Errorf("P7.2: Of(%s(1)) in node %d: %s, want %s", c.call, node, letters[k], c.want[node:node+1])
			}
		}
	}
	for _, node := range []int{-1, 3, 4, math.MinInt, math.MaxInt} {
		if k := typ.Of(l, node, syn.Expr{Op: "int"}); k != api.None {
			t.Errorf("P7.2: Of in node %d: %s", node, letters[k])
		}
	}
	if k := typ.Of(nil, 0, syn.Expr{Op: "int"}); k != api.None {
		t.Errorf("P7.2: Of in no nodes: %s", letters[k])
	}
}

// P7.2, R1: what is no expression has no kind.
func TestOfOddTrees(t *testing.T) {
	l := parse(t, "P7.2", declares)
	one, yes := syn.Expr{Op: "int", N: 1}, syn.Expr{Op: "bool", N: 1}
	for _, e := range []syn.Expr{
		{}, {Op: "what"}, {Op: "Int"}, {Op: "when not", Name: "c", Kids: []syn.Expr{one}}, {Op: "none", Kids: []syn.Expr{one}}, {Kids: []syn.Expr{one, one}},
		{Op: "not", Kids: []syn.Expr{{}}}, {Op: "pre", Kids: []syn.Expr{{}}}, {Op: "->", Kids: []syn.Expr{{}, {}}}, {Op: "=", Kids: []syn.Expr{{}, {}}},
		{Op: "when", Name: "c", Kids: []syn.Expr{{}}}, {Op: "if", Kids: []syn.Expr{yes, {}, {}}}, {Op: "merge", Name: "c", Kids: []syn.Expr{{}, {}}}, {Op: "+", Kids: []syn.Expr{{}, {}}},
		{Op: "int", Kids: []syn.Expr{one}}, {Op: "var", Name: "x", Kids: []syn.Expr{one}}, {Op: "bool", Kids: []syn.Expr{{}}},
	} {
		if k := typ.Of(l, 0, e); k != api.None {
			t.Errorf("P7.2: Of(%+v): %s", e, letters[k])
		}
	}
	for _, c := range []struct {
		e    syn.Expr
		want api.Kind
	}{{syn.Expr{Op: "int", N: -1, At: -1}, api.Int}, {syn.Expr{Op: "int", Kids: []syn.Expr{}}, api.Int}, {syn.Expr{Op: "when", Name: "c", N: 7, Kids: []syn.Expr{one}}, api.Int}} {
		if k := typ.Of(l, 0, c.e); k != c.want {
			t.Errorf("P7.1: Of(%+v): %s", c.e, letters[k])
		}
	}
}
