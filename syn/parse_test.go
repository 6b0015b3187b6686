package syn_test

import (
	"fmt"
	"strings"
	"testing"

	"escapement/api"
	"escapement/syn"
)

// What stands round an expression, where only that is asked.
const (
	ahead  = "node f() returns (y: int); let y = "
	behind = "; tel"
)

// shown is a text, short enough to be told.
func shown(text string) string {
	return text[:min(len(text), 200)]
}

// dump tells all of an expression.
func dump(e syn.Expr) string {
	s := fmt.Sprintf("%s|%s|%d@%d", e.Op, e.Name, e.N, e.At)
	for _, k := range e.Kids {
		s += " [" + dump(k) + "]"
	}
	return s
}

// dumpAll tells all of a program.
func dumpAll(l []syn.Node) string {
	var s strings.Builder
	for _, n := range l {
		fmt.Fprintf(&s, "node %s@%d in %v out %v locals %v\n", n.Name, n.At, n.In, n.Out, n.Locals)
		for _, e := range n.Eqs {
			fmt.Fprintf(&s, "%s@%d = %s\n", e.Name, e.At, dump(e.E))
		}
	}
	return s.String()
}

// parse reads a program that has no fault.
func parse(t *testing.T, promise, text string) []syn.Node {
	t.Helper()
	l, f := syn.Parse(text)
	if f != (api.Fault{}) || len(l) == 0 {
		t.Fatalf("%s: Parse(%q): %d nodes, %v; want no fault", promise, shown(text), len(l), f)
	}
	return l
}

// parseExpr reads an expression that has no fault; it stands at 0.
func parseExpr(t *testing.T, promise, text string) syn.Expr {
	t.Helper()
	e := parse(t, promise, ahead+text+behind)[0].Eqs[0].E
	return moved(e, -len(ahead))
}

// moved is an expression that stands elsewhere.
func moved(e syn.Expr, by int) syn.Expr {
	e.At += by
	var kids []syn.Expr
	for _, k := range e.Kids {
		kids = append(kids, moved(k, by))
	}
	e.Kids = kids
	return e
}

// checkFault holds that Parse answers the fault alone.
func checkFault(t *testing.T, promise, text string, err api.Errno, at int) {
	t.Helper()
	l, f := syn.Parse(text)
	if f != (api.Fault{Err: err, At: at}) || len(l) != 0 {
		t.Errorf("%s: Parse(%q): %d nodes, %v at %d; want none, %v at %d", promise, shown(text), len(l), f.Err, f.At, err, at)
	}
}

// checkExprFault is checkFault of an expression that stands at 0.
func checkExprFault(t *testing.T, promise, text string, err api.Errno, at int) {
	t.Helper()
	checkFault(t, promise, ahead+text+behind, err, at+len(ahead))
}

// P5.2: what the document shows.
func TestParseExample(t *testing.T) {
	l := parse(t, "P5.2", "node f(x: int) returns (y: int); let y = 0 -> pre x; tel")
	if s := syn.Show(l); !strings.Contains(s, "\n  y = (0 -> (pre x));\n") {
		t.Errorf("P5.2: Show: %q", s)
	}
}

// P5.1: each row of the table: what it has, and how it is written.
func TestExprRows(t *testing.T) {
	for _, c := range []struct{ text, want, back string }{
		{"0", "int||0@0", "0"},
		{"9223372036854775807", "int||9223372036854775807@0", "9223372036854775807"},
		{"false", "bool||0@0", "false"},
		{"true", "bool||1@0", "true"},
		{"x_1", "var|x_1|0@0", "x_1"},
		{"g()", "call|g|0@0", "g()"},
		{"g(1)", "call|g|0@0 [int||1@2]", "g(1)"},
		{"g (1 , a,true)", "call|g|0@0 [int||1@3] [var|a|0@7] [bool||1@9]", "g(1, a, true)"},
		{"not a", "not||0@0 [var|a|0@4]", "(not a)"},
		{"- a", "neg||0@0 [var|a|0@2]", "(- a)"},
		{"-7", "neg||0@0 [int||7@1]", "(- 7)"},
		{"pre a", "pre||0@0 [var|a|0@4]", "(pre a)"},
		{"a+b", "+||0@1 [var|a|0@0] [var|b|0@2]", "(a + b)"},
		{"a-b", "-||0@1 [var|a|0@0] [var|b|0@2]", "(a - b)"},
		{"a*b", "*||0@1 [var|a|0@0] [var|b|0@2]", "(a * b)"},
		{"a/b", "/||0@1 [var|a|0@0] [var|b|0@2]", "(a / b)"},
		{"a mod b", "mod||0@2 [var|a|0@0] [var|b|0@6]", "(a mod b)"},
		{"a=b", "=||0@1 [var|a|0@0] [var|b|0@2]", "(a = b)"},
		{"a<>b", "<>||0@1 [var|a|0@0] [var|b|0@3]", "(a <> b)"},
		{"a<b", "<||0@1 [var|a|0@0] [var|b|0@2]", "(a < b)"},
		{"a<=b", "<=||0@1 [var|a|0@0] [var|b|0@3]", "(a <= b)"},
		{"a>b", ">||0@1 [var|a|0@0] [var|b|0@2]", "(a > b)"},
		{"a>=b", ">=||0@1 [var|a|0@0] [var|b|0@3]", "(a >= b)"},
		{"a and b", "and||0@2 [var|a|0@0] [var|b|0@6]", "(a and b)"},
		{"a or b", "or||0@2 [var|a|0@0] [var|b|0@5]", "(a or b)"},
		{"a xor b", "xor||0@2 [var|a|0@0] [var|b|0@6]", "(a xor b)"},
		{"a->b", "->||0@1 [var|a|0@0] [var|b|0@3]", "(a -> b)"},
		{"a fby b", "fby||0@2 [var|a|0@0] [var|b|0@6]", "(a fby b)"},
		{"a when c", "when|c|1@2 [var|a|0@0]", "(a when c)"},
		{"a when not c", "when|c|0@2 [var|a|0@0]", "(a when not c)"},
		{"if a then 1 else 2", "if||0@0 [var|a|0@3] [int||1@10] [int||2@17]", "(if a then 1 else 2)"},
		{"merge c a b", "merge|c|0@0 [var|a|0@8] [var|b|0@10]", "(merge c (a) (b))"},
		{"merge c (a)b", "merge|c|0@0 [var|a|0@9] [var|b|0@11]", "(merge c (a) (b))"},
		{"merge c a(b) c", "merge|c|0@0 [call|a|0@8 [var|b|0@10]] [var|c|0@13]", "(merge c a(b) (c))"},
		{"merge c 1 true", "merge|c|0@0 [int||1@8] [bool||1@10]", "(merge c 1 true)"},
	} {
		e := parseExpr(t, "P5.1", c.text)
		if s := dump(e); s != c.want {
			t.Errorf("P5.1: %s: %s, want %s", c.text, s, c.want)
		}
		if s := syn.Text(e); s != c.back {
			t.Errorf("P5.1: Text of %s: %s, want %s", c.text, s, c.back)
		}
	}
}

// P5.1: brackets are none, however many; what is in them stands where it stands.
func TestBracketsAreNone(t *testing.T) {
	for _, n := range []int{1, 2, 29} {
		text := strings.Repeat("(", n) + " a + b " + strings.Repeat(")", n) + " * (c)"
		want := fmt.Sprintf("*||0@%d [+||0@%d [var|a|0@%d] [var|b|0@%d]] [var|c|0@%d]", 2*n+8, n+3, n+1, n+5, 2*n+11)
		if s := dump(parseExpr(t, "P5.1", text)); s != want {
			t.Errorf("P5.1: %s: %s, want %s", text, s, want)
		}
	}
}

// binds are the signs and words between two: those of a later row bind closer.
var binds = [][]string{{"->"}, {"or", "xor"}, {"and"}, {"=", "<>", "<", "<=", ">", ">="}, {"+", "-"}, {"*", "/", "mod"}, {"fby"}}

// P5.2: each two signs or words between two: which binds closer, and of alike ones to which side.
func TestEachTwoSigns(t *testing.T) {
	const right, none, fby = 0, 3, 6
	for i, rows := range binds {
		for j, others := range binds {
			for _, one := range rows {
				for _, two := range others {
					text := "a " + one + " b " + two + " c"
					if i == none && j == none {
						checkExprFault(t, "P5.2", text, api.ESYNTAX, len("a "+one+" b "))
						continue
					}
					want := "((a " + one + " b) " + two + " c)"
					if i < j || i == j && (i == right || i == fby) {
						want = "(a " + one + " (b " + two + " c))"
					}
					if s := syn.Text(parseExpr(t, "P5.2", text)); s != want {
						t.Errorf("P5.2: %s: %s, want %s", text, s, want)
					}
				}
			}
		}
	}
}

// P5.2: not, -, pre bind closer than when, and when closer than what stands between two.
func TestWordsAheadAndWhen(t *testing.T) {
	for i, rows := range binds {
		for _, sign := range rows {
			for _, word := range []string{"not", "-", "pre"} {
				checkText(t, word+" a "+sign+" "+word+" b", "(("+word+" a) "+sign+" ("+word+" b))")
			}
			checkText(t, "a when c "+sign+" b when not d", "((a when c) "+sign+" (b when not d))")
			checkText(t, "f(a "+sign+" b) when c", "(f((a "+sign+" b)) when c)")
			checkText(t, "if a then b else c "+sign+" d", "(if a then b else (c "+sign+" d))")
			checkText(t, "a "+sign+" if a then b else c", "(a "+sign+" (if a then b else c))")
			checkText(t, "merge c (a) (b) "+sign+" d", "((merge c (a) (b)) "+sign+" d)")
			if i != 3 {
				checkText(t, "a "+sign+" b = c when d", "("+map[bool]string{true: "a " + sign + " (b = (c when d))", false: "(a " + sign + " b) = (c when d)"}[i < 3]+")")
			}
		}
	}
	for _, word := range []string{"not", "-", "pre"} {
		checkText(t, word+" a when c when not d", "((("+word+" a) when c) when not d)")
		checkText(t, word+" not - pre a", "("+word+" (not (- (pre a))))")
		checkText(t, word+" if a then b else c when d", "("+word+" (if a then b else (c when d)))")
		checkText(t, word+" merge c 1 2 when d", "(("+word+" (merge c 1 2)) when d)")
		checkText(t, "merge c ("+word+" a) ("+word+" b)", "(merge c ("+word+" a) ("+word+" b))")
	}
}

// checkText holds how an expression is written.
func checkText(t *testing.T, text, want string) {
	t.Helper()
	if s := syn.Text(parseExpr(t, "P5.2", text)); s != want {
		t.Errorf("P5.2: %s: %s, want %s", text, s, want)
	}
}

// P5.2: declarations: names, kinds, what they hang on, and where they stand.
func TestDeclarations(t *testing.T) {
	const text = "  node f(a, b: int; c: bool) returns (y,\nz: int); var l: bool; m, n: int when not c; k: int when l; let y=a; z = b; tel; node g() returns (); var; let tel"
	l := parse(t, "P5.1", text)
	at := func(s string) int { return strings.Index(text, s) }
	want := "node f@2 in [{a 2  false 9} {b 2  false 12} {c 1  false 20}] out [{y 2  false 38} {z 2  false 41}] " +
		fmt.Sprintf("locals [{l 1  false %d} {m 2 c true %d} {n 2 c true %d} {k 2 l false %d}]\n", at("l: bool"), at("m, n"), at("n: int when not"), at("k: int")) +
		fmt.Sprintf("y@%d = var|a|0@%d\nz@%d = var|b|0@%d\n", at("y=a"), at("y=a")+2, at("z = b"), at("z = b")+4) +
		fmt.Sprintf("node g@%d in [] out [] locals []\n", at("node g"))
	if s := dumpAll(l); s != want {
		t.Errorf("P5.1: %s\nwant %s", s, want)
	}
}

// P5.2: what a node may lack.
func TestWhatMayBeLeftOut(t *testing.T) {
	for _, text := range []string{
		"node f() returns (); let tel",
		"node f() returns (); let tel;",
		"node f() returns (); var; let tel",
		"node f() returns (); var a: int; let tel",
		"node f() returns (); var a: int when b; c: bool; let tel",
		"node f() returns (); let tel node g() returns (); let tel",
		"node f() returns (); let tel; node g() returns (); let tel;",
		"node f(a: int) returns (); let a = a; a = f(f(), a); tel",
		"node f()returns();let tel;--",
	} {
		parse(t, "P5.2", text)
	}
}

// P5.2: the first word that fits nothing.
func TestSyntaxFaults(t *testing.T) {
	for text, at := range map[string]int{
		"": 0, " \n": 2, ";": 0, "f": 0, "node": 4, "node node": 5, "node 1": 5, "node f": 6, "node f x": 7, "node f(": 7,
		"node f(;": 7, "node f(x": 8, "node f(x)": 8, "node f(x:": 9, "node f(x: x": 10, "node f(x: int": 13, "node f(x: int,": 13, "node f(x,)": 9,
		"node f(x: int;)": 14, "node f(x: int when c)": 14, "node f(int: int)": 7, "node f(1: int)": 7,
		"node f();": 8, "node f() returns": 16, "node f() returns ()": 19, "node f() returns () let": 20, "node f() returns (;": 18,
		"node f() returns (); tel": 21, "node f() returns (); var": 24, "node f() returns (); var let tel": 25, "node f() returns (); var; var": 26,
		"node f() returns (); var; x: int; let tel": 26, "node f() returns (); var x: int let": 32, "node f() returns (); var x: int;; let": 32,
		"node f() returns (); var x: int when; let": 36, "node f() returns (); var x: int when not": 40, "node f() returns (); var x: int when not not c": 41,
		"node f() returns (); var x: int when c when d;": 39, "node f() returns (); var x: int when c, d;": 38, "node f() returns (); var x: int; node": 33,
		"node f() returns (); let": 24, "node f() returns (); let;": 24, "node f() returns (); let x": 26, "node f() returns (); let x = ": 29,
		"node f() returns (); let x: 1": 26, "node f() returns (); let x = 1": 30, "node f() returns (); let x = 1 tel": 31, "node f() returns (); let x = 1;": 31,
		"node f() returns (); let x = 1;;": 31, "node f() returns (); let 1 = 1;": 25, "node f() returns (); let tel x": 29, "node f() returns (); let tel;;": 29,
		"node f() returns (); let tel; let": 30, "node f() returns (); let tel node": 33,
	} {
		checkFault(t, "P5.2", text, api.ESYNTAX, at)
	}
	for text, at := range map[string]int{
		"": 0, ")": 0, "*": 0, "->": 0, "+ a": 0, "when c": 0, "int": 0, "bool": 0, "then": 0, "returns": 0,
		"a b": 2, "a 1": 2, "1 a": 2, "1(a)": 1, "true(a)": 4, "(a)(b)": 3, "a +": 3, "a + * b": 4, "a = b < c": 6, "a -> ": 5, "a fby fby b": 6, "a not b": 2, "a pre b": 2,
		"a when": 6, "a when 1": 7, "a when (c)": 7, "a when true": 7, "a when not not c": 11, "a when - c": 7, "a when c(": 8, "not": 3, "- ": 2, "pre ->": 4, "not when c": 4,
		"(": 1, "()": 1, "(a": 2, "(a,b)": 2, "a)": 1, "f(": 2, "f(,)": 2, "f(a": 3, "f(a,)": 4, "f(a b)": 4, "f(a;": 3, "f()()": 3, "f(a)(b)": 4,
		"if": 2, "if a": 4, "if a else b": 5, "if a then": 9, "if a then b": 11, "if a then b then c": 12, "if a then b else": 16, "if then b else c": 3,
		"merge": 5, "merge 1 a b": 6, "merge (c) a b": 6, "merge true a b": 6, "merge c": 7, "merge c a": 9, "merge c a (b)": 13, "merge c a + b": 10, "merge c - a b": 8,
		"merge c not a b": 8, "merge c pre a b": 8, "merge c a - b": 10, "merge c 1 not b": 10, "merge c (a) when d b": 12, "merge c a b c": 12, "merge c (a, b)": 10, "merge c 1 2(a)": 11,
	} {
		checkExprFault(t, "P5.2", text, api.ESYNTAX, at)
	}
}

// P5.2: lex's fault, wherever it stands, is told ahead of all others.
func TestLexFaults(t *testing.T) {
	checkFault(t, "P5.2", "!", api.ESYNTAX, 0)
	checkFault(t, "P5.2", "node node 00", api.ESYNTAX, 10)
	checkExprFault(t, "P5.2", "a b ! c", api.ESYNTAX, 4)
	checkExprFault(t, "P5.2", strings.Repeat("(", 40)+" 007", api.ESYNTAX, 41)
	for _, text := range []string{strings.Repeat(" ", api.MaxText), ")", "!"} {
		text += strings.Repeat(" ", api.MaxText+1-len(text))
		checkFault(t, "P5.2", text, api.ELIMIT, api.MaxText+1)
	}
	const node = "node f() returns (); let tel"
	parse(t, "P5.2", node+strings.Repeat("\n", api.MaxText-len(node)))
	checkFault(t, "P5.2", node+strings.Repeat("\n", api.MaxText+1-len(node)), api.ELIMIT, api.MaxText+1)
}
