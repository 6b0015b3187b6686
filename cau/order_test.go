package cau_test

import (
	"slices"
	"strings"
	"testing"

	"escapement/cau"
	"escapement/syn"
)

// holdOrder holds a node's order; "none": it has none.
func holdOrder(t *testing.T, n syn.Node, want string) {
	t.Helper()
	wanted := strings.Fields(want)
	if want == "none" {
		wanted = nil
	}
	if l, ok := cau.Order(n); !slices.Equal(l, wanted) || ok != (want != "none") || !ok && l != nil {
		t.Errorf("P10.1: Order of\n%s: %q, %v, want %s", syn.Show([]syn.Node{n}), l, ok, want)
	}
}

// P10.1: each behind those it leans on, and else as declared, whatever the order of the equations is.
func TestOrders(t *testing.T) {
	const outs, all = "returns (y, z: int);", "returns (y: int); var a, b, d: int;"
	for _, c := range []struct{ decls, eqs, want string }{
		{"returns (y: int);", "y = 0 fby y;", "y"},
		{"returns (y: int);", "y = x;", "y"},
		{outs, "y = x; z = x;", "y z"},
		{outs, "z = x; y = x;", "y z"},
		{outs, "y = z; z = x;", "z y"},
		{outs, "y = x; z = y;", "y z"},
		{outs, "z = 0 -> pre y; y = z;", "z y"},
		{outs, "y = 0 fby z; z = 0 fby y;", "y z"},
		{outs, "y = 0 -> pre z; z = 1 -> pre y;", "y z"},
		{all, "y = 1; a = 2; b = 3; d = 4;", "y a b d"},
		{all, "d = 4; b = 3; a = 2; y = 1;", "y a b d"},
		{all, "y = a; a = b; b = d; d = 1;", "d b a y"},
		{all, "y = d; a = y; b = a; d = 1;", "d y a b"},
		{all, "y = 1; a = y; b = a; d = b;", "y a b d"},
		{all, "y = d; a = 1; b = 1; d = 1;", "a b d y"},
		{all, "y = a; a = 1; b = 1; d = 1;", "a y b d"},
		{all, "y = b; a = d; b = 1; d = 1;", "b y d a"},
		{all, "y = 1; a = d; b = 1; d = 1;", "y b d a"},
		{all, "y = 1; a = d; b = d; d = 1;", "y d a b"},
		{all, "y = b + d; a = b; b = 1; d = 1;", "b a d y"},
		{all, "y = d + d; a = d * d + y; b = 1; d = 1 - x;", "b d y a"},
		{all, "y = a + b + d; a = 0 fby y; b = 0 fby y; d = a fby y;", "a b d y"},
		{"returns (y: int); var b, a: int;", "a = 1; b = 1; y = a + b;", "b a y"},
		{"returns (z, y: int); var d, b: int;", "y = 1; z = d; b = 1; d = b;", "y b d z"},
	} {
		holdOrder(t, one(t, c.decls, c.eqs), c.want)
	}
	holdOrder(t, syn.Node{}, "")
	holdOrder(t, syn.Node{In: []syn.Var{{Name: "x"}}}, "")
}

// P10.1: behind its On, and the On of that, too; an input holds up nobody.
func TestOrdersOfOns(t *testing.T) {
	for _, c := range []struct{ decls, eqs, want string }{
		{"returns (y: int); var a: int when c;", "y = 1; a = 2;", "y a"},
		{"returns (y: int); var k: bool; a: int when k;", "y = merge k (a) 1; k = c; a = 2;", "k a y"},
		{"returns (y: int); var k: bool; a: int when k; d: int;", "y = 1; k = d = 1; a = 2; d = x;", "y d k a"},
		{"returns (y: int); var k: bool; a: bool when k; b: int when not a; d: int;", "y = 1; k = d = 1; a = true; b = 0 fby b; d = x;", "y d k a b"},
		{"returns (y: int; o: bool); var a: bool when o; b: int when a;", "y = 1; o = y = 1; a = true; b = 2;", "y o a b"},
		{"returns (o: bool; y: int); var a: bool when o; b: int when a;", "y = 1; o = y = 1; a = true; b = 2;", "y o a b"},
		{"returns (o: bool); var a: bool when o;", "o = c; a = true;", "o a"},
		{"returns (o: bool); var a: bool when o;", "o = merge o (a) false; a = true;", "none"},
	} {
		holdOrder(t, one(t, c.decls, c.eqs), c.want)
	}
}

// P10.1: none, where one leans on itself, whoever else doesn't.
func TestNoOrders(t *testing.T) {
	const all = "returns (y: int); var a, b, d: int;"
	for _, eqs := range []string{
		"y = y; a = 1; b = 1; d = 1;", "y = 1; a = 1; b = 1; d = d + 1;", "y = 1; a = 1 -> a; b = 1; d = 1;", "y = b fby 1; a = 1; b = y; d = 1;", "y = a; a = b; b = d; d = y;", "y = a; a = b; b = d; d = b;", "y = 1; a = y; b = a + d; d = y + b;",
	} {
		holdOrder(t, one(t, all, eqs), "none")
	}
}
