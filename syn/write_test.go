package syn_test

import (
	"math"
	"strings"
	"testing"

	"escapement/api"
	"escapement/syn"
)

// P5.2: how nodes are written, with all that they may have, and with nothing.
func TestShow(t *testing.T) {
	for text, want := range map[string]string{
		"node f(a, b: int; c: bool) returns (y: int; z: bool); var l: bool; m, n: int when not c; k: bool when c; let y = a -> b; z = c; tel node g() returns (); let tel": "node f(a: int; b: int; c: bool) returns (y: int; z: bool);\n" +
			"var l: bool; m: int when not c; n: int when not c; k: bool when c;\nlet\n  y = (a -> b);\n  z = c;\ntel;\nnode g() returns ();\nlet\ntel;\n",
		"node f() returns (y: bool); var; let y = true; tel;":                                 "node f() returns (y: bool);\nlet\n  y = true;\ntel;\n",
		"node f(x: bool) returns(); let x = merge x f(merge x x(1) x) (merge x (x) (x)); tel": "node f(x: bool) returns ();\nlet\n  x = (merge x f((merge x x(1) (x))) (merge x (x) (x)));\ntel;\n",
	} {
		if s := syn.Show(parse(t, "P5.2", text)); s != want {
			t.Errorf("P5.2: Show of %s: %q, want %q", text, s, want)
		}
	}
	if s := syn.Show([]syn.Node{{Name: "f", In: []syn.Var{{Name: "x"}}}}); s != "node f(x: none) returns ();\nlet\ntel;\n" {
		t.Errorf("P5.2: Show of a var of no kind: %q", s)
	}
	if s := syn.Show(nil); s != "" {
		t.Errorf("P5.2: Show of nothing: %q", s)
	}
}

// P5.1, P5.2: trees that are made by hand are written as those that are read.
func TestTextOfTreesByHand(t *testing.T) {
	x := syn.Expr{Op: "var", Name: "x", At: 77}
	call := syn.Expr{Op: "call", Name: "f", Kids: []syn.Expr{x}}
	for _, c := range []struct {
		e    syn.Expr
		want string
	}{
		{syn.Expr{Op: "int", N: math.MaxInt64}, "9223372036854775807"},
		{syn.Expr{Op: "int", N: math.MinInt64}, "-9223372036854775808"},
		{syn.Expr{Op: "call", Name: "f", Kids: []syn.Expr{}}, "f()"},
		{syn.Expr{Op: "call", Name: "f", Kids: []syn.Expr{call, call, x}}, "f(f(x), f(x), x)"},
		{syn.Expr{Op: "merge", Name: "c", Kids: []syn.Expr{call, x}}, "(merge c f(x) (x))"},
		{syn.Expr{Op: "merge", Name: "c", Kids: []syn.Expr{{Op: "neg", Kids: []syn.Expr{x}}, {Op: "bool", N: 1}}}, "(merge c (- x) true)"},
		{syn.Expr{Op: "neg", Kids: []syn.Expr{{Op: "-", Kids: []syn.Expr{x, x}}}}, "(- (x - x))"},
	} {
		if s := syn.Text(c.e); s != c.want {
			t.Errorf("P5.1: Text of %s: %s, want %s", dump(c.e), s, c.want)
		}
	}
}

// P5.3: what is deeper when it is written with all brackets, or longer than a text may be, is refused; all else comes back.
func TestBackOrLimit(t *testing.T) {
	for _, c := range []struct {
		text string
		back bool
	}{
		{"a" + strings.Repeat(" + a", 28), true},
		{"a" + strings.Repeat(" + a", 29), true},
		{"a" + strings.Repeat(" + a", 30), false},
		{"a" + strings.Repeat(" when c", 29), true},
		{"a" + strings.Repeat(" when c", 30), false},
		{strings.Repeat("- ", 14) + "a", true},
		{strings.Repeat("- ", 15) + "a", false},
		{strings.Repeat("(", 29) + "a" + strings.Repeat(")", 29), true},
		{strings.Repeat("f(", 29) + "a" + strings.Repeat(")", 29), true},
		{strings.Repeat("if a then b else ", 14) + "c", true},
		{strings.Repeat("if a then b else ", 15) + "c", false},
	} {
		if back := checkBack(t, parse(t, "P5.3", ahead+c.text+behind)); back != c.back {
			t.Errorf("P5.3: %s comes back: %v", c.text, back)
		}
	}
	long := "node f() returns (" + strings.Repeat("abcdefghijklmnopqrstuvwx,", 63) + "y: bool); let "
	long += strings.Repeat("x=1;", (api.MaxText-len(long)-3)/4) + "tel"
	if checkBack(t, parse(t, "P5.3", long)) {
		t.Errorf("P5.3: what is written of %d bytes comes back", len(long))
	}
}

// R1: trees that Parse never tells.
func TestWriteOddTrees(t *testing.T) {
	ops := append(strings.Fields("int bool var call not neg pre + - * / mod = <> < <= > >= and or xor -> fby when if merge Int"), "", " ", "\x00", "(")
	for _, op := range ops {
		e := syn.Expr{Op: op, Name: "x\n(", N: -7}
		for range 5 {
			syn.Text(e)
			l := []syn.Node{{Eqs: []syn.Eq{{E: e}}, In: []syn.Var{{Kind: -1}, {Kind: 3, On: "c"}}, Out: []syn.Var{{}}}, {}}
			syn.Show(l)
			if !syn.Same(l, l) {
				t.Errorf("P5.2: Same of %s and itself: false", dump(e))
			}
			e.Kids = append(e.Kids, syn.Expr{Op: op, Kids: []syn.Expr{{Op: "var", Name: "y"}}})
		}
	}
}

// R1: trees of 2^16 parts nested in one another.
func TestWriteDeepTrees(t *testing.T) {
	for _, op := range strings.Fields("call neg + when if merge") {
		e := syn.Expr{Op: "int"}
		for range 1<<16 - 1 {
			e = syn.Expr{Op: op, Name: "f", Kids: []syn.Expr{e}}
		}
		l := []syn.Node{{Eqs: []syn.Eq{{E: e}}}}
		if s := syn.Text(e); len(s) < 1<<16 || len(syn.Show(l)) < len(s) || !syn.Same(l, l) {
			t.Errorf("R1: Text of a deep %s has %d bytes", op, len(s))
		}
	}
}
