package cau_test

import (
	"slices"
	"strings"
	"testing"

	"escapement/api"
	"escapement/cau"
	"escapement/clk"
	"escapement/ini"
	"escapement/names"
	"escapement/syn"
	"escapement/typ"
)

// isFit tells whether the layers ahead have no fault of a program.
func isFit(l []syn.Node) bool {
	return names.Check(l).Err == api.OK && typ.Check(l).Err == api.OK && clk.Check(l).Err == api.OK && ini.Check(l).Err == api.OK
}

// parse reads a program that no layer ahead has a fault of.
func parse(t *testing.T, text string) []syn.Node {
	t.Helper()
	l, f := syn.Parse(text)
	if f.Err != api.OK || !isFit(l) {
		t.Fatalf("P10.1: %q is no program: %v at %d", text, f.Err, f.At)
	}
	return l
}

// one reads a program of one node with x, an int, and c, a bool, as inputs.
func one(t *testing.T, decls, eqs string) syn.Node {
	t.Helper()
	return parse(t, "node f(x: int; c: bool) "+decls+" let "+eqs+" tel")[0]
}

func holdLeans(t *testing.T, n syn.Node, name, want string) {
	t.Helper()
	if l := cau.Leans(n, name); !slices.Equal(l, strings.Fields(want)) {
		t.Errorf("P10.1: Leans(%s) in\n%s: %q, want %q", name, syn.Show([]syn.Node{n}), l, want)
	}
}

// declares has names of both kinds, none of which leans on another, and some that are there at times alone; nodes have
// names' names.
const declares = "node g(a, b: int) returns (y: int); let y = a + b; tel node p(a: int) returns (y: int); let y = a; tel node k() returns (q: bool); let q = true; tel " +
	"node f(x: int; c: bool) returns (y, z: int; o: bool); var s, p, q, r: int; k, m: bool; u: int when k; v: int when not k; w: bool when m; a: int when not w; e: int when c; " +
	"let a = 1; w = true; p = x; q = 2; r = 3; s = 4; k = c; m = not c; u = 5; v = 6; e = x when c; z = 7; o = c; y = "

// program is what declares has, with that as y's expression.
func program(t *testing.T, e string) syn.Node {
	t.Helper()
	return parse(t, declares+e+"; tel")[3]
}

func holdTexts(t *testing.T, texts map[string]string) {
	t.Helper()
	for e, want := range texts {
		holdLeans(t, program(t, e), "y", want)
	}
}

// P10.1: what the document shows.
func TestLeansExamples(t *testing.T) {
	holdLeans(t, one(t, "returns (y: int);", "y = y + 1;"), "y", "y")
	holdLeans(t, one(t, "returns (y: int);", "y = 0 fby y;"), "y", "")
}

// P10.1: outputs and locals, each once, in the order in which they are declared; no inputs, and no nodes.
func TestLeansOfTexts(t *testing.T) {
	holdTexts(t, map[string]string{
		"1": "", "x": "", "y": "y", "p": "p", "- p": "p", "z": "z", "x + 1": "", "p + q": "p q", "q + p": "p q", "r + (q + p) + s + y + z": "y z s p q r", "p + p * p": "p", "y + x + y": "y", "s - (x + s)": "s",
		"if k then 1 else 2": "k", "if c then p else x": "p", "if c then x else q": "q", "if o and k then q else p": "o p q k", "if not m then x else 1": "m", "if true then 1 else y": "y", "if not (k xor o) then - p else - (- q)": "o p q k",
		"g(p, q)": "p q", "g(1, z)": "z", "g(x, y)": "y", "p(q)": "q", "p(1)": "", "p(p(x))": "", "g(p(p), g(x, r))": "p r", "if k() then 1 else 2": "", "if k() or k then 1 else 2": "k",
		"p -> q": "p q", "x -> 1": "", "1 -> y": "y", "y -> 1": "y", "0 -> p -> q": "p q",
	})
}

// P10.1: each Op between two, at the left and at the right.
func TestLeansOfOperators(t *testing.T) {
	for _, op := range []string{"+", "-", "*", "/", "mod", "->", "=", "<>", "<", "<=", ">", ">="} {
		around := "#"
		if slices.Contains([]string{"=", "<>", "<", "<=", ">", ">="}, op) {
			around = "if # then 1 else 2"
		}
		for e, want := range map[string]string{"p " + op + " 1": "p", "1 " + op + " q": "q", "q " + op + " p": "p q", "1 " + op + " x": ""} {
			holdLeans(t, program(t, strings.ReplaceAll(around, "#", e)), "y", want)
		}
	}
	for _, op := range []string{"and", "or", "xor", "=", "<>", "->"} {
		for e, want := range map[string]string{"k " + op + " c": "k", "c " + op + " o": "o", "k " + op + " o": "o k", "c " + op + " true": ""} {
			holdLeans(t, program(t, "if "+e+" then 1 else 2"), "y", want)
		}
	}
}

// P10.1: a merge names what it goes by, as a when does; an input is none of those.
func TestLeansOfWhenAndMerge(t *testing.T) {
	holdTexts(t, map[string]string{
		"merge k 1 2": "k", "merge c 1 2": "", "merge k (u) (v)": "k u v", "merge k (p when k) (q when not k)": "p q k", "merge c (p when c) (q when not c)": "p q", "merge c (e) 1": "e", "merge c 1 (p when not c)": "p",
		"merge m (merge w 1 (a)) 2": "m w a", "merge m (if w then 1 else 2) 2": "m w", "x + merge k (u + (y when k)) 1": "y k u",
	})
}

// P10.1: nothing beneath a pre, nor beneath the second kid of a fby; all beside these.
func TestLeansOnWhatWas(t *testing.T) {
	holdTexts(t, map[string]string{
		"0 -> pre p": "", "0 -> pre y": "", "p -> pre q": "p", "p -> q + pre r": "p q", "0 -> pre (p + q * r)": "", "0 -> p + pre p": "p", "0 -> pre p + p": "p", "0 -> pre (0 -> p)": "", "0 -> pre (p fby q)": "", "0 -> pre g(p, q)": "",
		"0 -> pre (if k then p else q)": "", "0 -> (if k then pre p else q)": "q k", "0 -> pre merge k (u) (v)": "", "0 -> pre merge k (p when k) (q when not k)": "", "merge k (0 -> pre u) (0 -> pre v)": "k", "g(0 -> pre p, q)": "q",
		"p fby q": "p", "0 fby y": "", "y fby 0": "y", "p fby q fby r": "p", "(p fby q) fby r": "p", "p fby (q fby r)": "p", "(p + q) fby (r + s)": "p q", "p fby q + r": "p r", "p + q fby r": "p q", "0 fby g(p, q)": "", "g(p, q) fby 0": "p q", "(0 fby p) fby q": "", "0 fby (p -> q)": "", "(p -> q) fby 0": "p q",
		"merge k (u) (v) fby 0": "k u v", "0 fby merge k (u) (v)": "", "merge k (0 fby u) (v fby 0)": "k v", "(if k then p else q) fby r": "p q k", "0 fby (if k then p else q)": "", "(0 -> pre p) fby q": "", "(0 -> p + pre q) fby q": "p", "0 fby p + (q fby r)": "q", "g(0 fby p, q fby r)": "q",
	})
}

// P10.1: a name's own On, and the On of that; not the Ons of whom its expression names, and not an input.
func TestLeansOnOns(t *testing.T) {
	n := program(t, "x + merge m 1 2")
	for name, want := range map[string]string{"u": "k", "v": "k", "w": "m", "a": "m w", "e": "", "k": "", "m": "", "y": "m"} {
		holdLeans(t, n, name, want)
	}
	n = one(t, "returns (y: int; o: bool); var a: bool when o; b: bool when not a; d, e: int when b; g: bool when c; h: int when not g;",
		"y = merge o (merge a 1 (merge b (d) 2)) 3; o = c; a = true; b = a when not a; d = 4; e = (d + 1) + (((x when o) when not a) when b); g = c when c; h = 0 fby h;")
	for name, want := range map[string]string{"y": "o a b d", "o": "", "a": "o", "b": "o a", "d": "o a b", "e": "o a b d", "g": "", "h": "g", "x": "", "c": ""} {
		holdLeans(t, n, name, want)
	}
	// The Ons alone, whether its expression names some of these or itself or none.
	for e, want := range map[string]string{"1": "o a b", "d": "o a b d", "0 fby d": "o a b", "0 -> pre d": "o a b", "((1 when o) when not a) when b": "o a b", "(p when not a) when b": "o a b p"} {
		n := one(t, "returns (y: int; o: bool); var a: bool when o; b: bool when not a; d: int when b; p: int when o;", "y = 1; o = c; a = true; b = true; p = 1; d = "+e+";")
		holdLeans(t, n, "d", want)
	}
}

// P10.1: whom a local leans on hangs on its own equation, wherever this stands, and not on a name elsewhere.
func TestLeansOfEachName(t *testing.T) {
	l := parse(t, "node f(a: int) returns (y, z: int); var b: int; let z = y; y = b + z; b = a; tel "+
		"node g(b: int) returns (y: int); var a, z: int; let z = 1; y = b; a = z + a; tel")
	for name, want := range map[string]string{"y": "z b", "z": "y", "b": "", "a": "", "q": "", "": "", "f": "", "1": "", "Y": "", "y ": ""} {
		holdLeans(t, l[0], name, want)
	}
	for name, want := range map[string]string{"y": "", "z": "", "a": "a z", "b": "", "g": "", "f": ""} {
		holdLeans(t, l[1], name, want)
	}
	holdLeans(t, syn.Node{}, "y", "")
	holdLeans(t, syn.Node{}, "", "")
}
