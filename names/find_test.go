package names_test

import (
	"fmt"
	"strings"
	"testing"
	"unsafe"

	"escapement/api"
	"escapement/names"
	"escapement/syn"
)

// dump tells all of an expression.
func dump(e syn.Expr) string {
	s := fmt.Sprintf("%s|%s|%d@%d", e.Op, e.Name, e.N, e.At)
	for _, k := range e.Kids {
		s += " [" + dump(k) + "]"
	}
	return s
}

// dumpAll tells all of a program.
func dumpAll(l []syn.Node) string {
	var s strings.Builder
	for _, n := range l {
		fmt.Fprintf(&s, "node %s@%d in %v out %v locals %v\n", n.Name, n.At, n.In, n.Out, n.Locals)
		for _, q := range n.Eqs {
			fmt.Fprintf(&s, "%s@%d = %s\n", q.Name, q.At, dump(q.E))
		}
	}
	return s.String()
}

// P6.2: a node's number; of several with that name the first one's; -1: there is none.
func TestNode(t *testing.T) {
	l := parse(t, "P6.2", strings.Repeat("node f() returns (); let tel node g(x: int) returns (y: int); let y = x; tel ", 2)+"node h() returns (); let tel")
	for name, want := range map[string]int{"f": 0, "g": 1, "h": 4, "x": -1, "y": -1, "": -1, "F": -1, "ff": -1} {
		if n := names.Node(l, name); n != want {
			t.Errorf("P6.2: Node(%q): %d, want %d", name, n, want)
		}
	}
	if n := names.Node(nil, "f"); n != -1 {
		t.Errorf("P6.2: Node of no nodes: %d", n)
	}
	if n := names.Node(nil, ""); n != -1 {
		t.Errorf("P6.2: Node of no nodes and no name: %d", n)
	}
}

const found = "node f(a: int; b: bool) returns (c: bool; d: int); var e, g: int when not b; h: bool; k: int when h; let d = 1; c = 2; d = 3 + pre 4; f = 5; a = 6; tel"

// P6.2: what is declared so, whichever it is.
func TestFind(t *testing.T) {
	n := parse(t, "P6.2", found)[0]
	for name, want := range map[string]syn.Var{
		"a": {Name: "a", Kind: api.Int, At: 7},
		"b": {Name: "b", Kind: api.Bool, At: 15},
		"c": {Name: "c", Kind: api.Bool, At: 33},
		"d": {Name: "d", Kind: api.Int, At: 42},
		"e": {Name: "e", Kind: api.Int, On: "b", Not: true, At: 55},
		"g": {Name: "g", Kind: api.Int, On: "b", Not: true, At: 58},
		"h": {Name: "h", Kind: api.Bool, At: 77},
		"k": {Name: "k", Kind: api.Int, On: "h", At: 86},
	} {
		if v, ok := names.Find(n, name); !ok || v != want {
			t.Errorf("P6.2: Find(%s): %+v, %v; want %+v", name, v, ok, want)
		}
	}
	for _, name := range []string{"f", "x", "", "A", "aa"} {
		if v, ok := names.Find(n, name); ok || v != (syn.Var{}) {
			t.Errorf("P6.2, R2: Find(%q), which is not declared: %+v, %v", name, v, ok)
		}
	}
	if v, ok := names.Find(syn.Node{}, ""); ok || v != (syn.Var{}) {
		t.Errorf("P6.2, R2: Find in a node of nothing: %+v, %v", v, ok)
	}
}

// P6.2: of several that are declared so the first one, inputs ahead of outputs, these ahead of locals.
func TestFindOfSeveral(t *testing.T) {
	n := parse(t, "P6.2", "node f(a: int; a: bool) returns (a, b: bool; b: int); var a, b: int; c: bool; c: int; let tel")[0]
	for name, want := range map[string]syn.Var{"a": {Name: "a", Kind: api.Int, At: 7}, "b": {Name: "b", Kind: api.Bool, At: 36}, "c": {Name: "c", Kind: api.Bool, At: 69}} {
		if v, ok := names.Find(n, name); !ok || v != want {
			t.Errorf("P6.2: Find(%s): %+v, %v; want %+v", name, v, ok, want)
		}
	}
}

// P6.2: a name's equation, whether it may have one or not; of several the first one.
func TestEq(t *testing.T) {
	n := parse(t, "P6.2", found)[0]
	for name, text := range map[string]string{"d": "1", "c": "2", "f": "5", "a": "6"} {
		q, ok := names.Eq(n, name)
		if !ok || q.Name != name || syn.Text(q.E) != text || found[q.At:q.At+4] != name+" = " {
			t.Errorf("P6.2: Eq(%s): %s at %d = %s, %v; want %s", name, q.Name, q.At, dump(q.E), ok, text)
		}
	}
	for _, name := range []string{"b", "e", "h", "x", "", "D", "dd"} {
		if q, ok := names.Eq(n, name); ok || q.Name != "" || q.At != 0 || dump(q.E) != dump(syn.Expr{}) {
			t.Errorf("P6.2, R2: Eq(%q), which has none: %s at %d = %s, %v", name, q.Name, q.At, dump(q.E), ok)
		}
	}
	if _, ok := names.Eq(syn.Node{}, ""); ok {
		t.Errorf("P6.2: Eq in a node of nothing: true")
	}
}

const many = "node f(x: int; c: bool) returns (y: int); let y = merge c (if c then x -> - x else g(x, 1, g())) (0 fby pre y when not c); tel"

// P6.2: an equation's expression is told whole.
func TestEqTellsAll(t *testing.T) {
	n := parse(t, "P6.2", many)[0]
	if q, ok := names.Eq(n, "y"); !ok || dump(q.E) != dump(n.Eqs[0].E) {
		t.Errorf("P6.2: Eq: %s, %v; want %s", dump(q.E), ok, dump(n.Eqs[0].E))
	}
}

// span is the memory of a list, spare room too.
type span struct{ from, to uintptr }

// spans are those of all lists of an expression.
func spans(e syn.Expr) []span {
	var all []span
	if cap(e.Kids) > 0 {
		from := uintptr(unsafe.Pointer(unsafe.SliceData(e.Kids)))
		all = append(all, span{from, from + uintptr(cap(e.Kids))*unsafe.Sizeof(e)})
	}
	for _, k := range e.Kids {
		all = append(all, spans(k)...)
	}
	return all
}

// R4: what Eq tells shares no memory with what was handed in, nor with what it told ahead, nor do two of its lists.
func TestEqAnswersNewMemory(t *testing.T) {
	n := parse(t, "R4", many)[0]
	all := spans(n.Eqs[0].E)
	for range 2 {
		q, _ := names.Eq(n, "y")
		all = append(all, spans(q.E)...)
	}
	for i, a := range all {
		for _, b := range all[:i] {
			if a.from < b.to && b.from < a.to {
				t.Fatalf("R4: two lists share memory")
			}
		}
	}
}

// R4: who is told an expression may change it, and nothing else changes.
func TestChangesOfWhatEqTells(t *testing.T) {
	l := parse(t, "R4", many)
	was := dumpAll(l)
	q, _ := names.Eq(l[0], "y")
	var spoil func(e *syn.Expr)
	spoil = func(e *syn.Expr) {
		for i := range e.Kids {
			spoil(&e.Kids[i])
		}
		e.Op, e.Name, e.N, e.At = "spoilt", "", -1, -1
		e.Kids = append(e.Kids, syn.Expr{Op: "more"})
	}
	spoil(&q.E)
	again, ok := names.Eq(l[0], "y")
	if dumpAll(l) != was || !ok || dump(again.E) != dump(l[0].Eqs[0].E) {
		t.Errorf("R4, R5: a change of what Eq told changed the program: %s, %s", dumpAll(l), dump(again.E))
	}
}

// R4: no call changes what is handed in, spare room too.
func TestCallsChangeNothing(t *testing.T) {
	l := parse(t, "R4", strings.Replace(found, "let", "let e = 1; g = f(e); h = a; k = a;", 1)+" "+many)
	l = append(make([]syn.Node, 0, 9), l...)
	n := &l[0]
	n.In = append(make([]syn.Var, 0, 9), n.In...)
	n.Out = append(make([]syn.Var, 0, 9), n.Out...)
	n.Locals = append(make([]syn.Var, 0, 9), n.Locals...)
	n.Eqs = append(make([]syn.Eq, 0, 20), n.Eqs...)
	e := &l[1].Eqs[0].E
	e.Kids = append(make([]syn.Expr, 0, 9), e.Kids...)
	was := dumpAll(l)
	names.Check(l)
	names.Check(l[1:])
	for _, name := range []string{"a", "d", "e", "f", "y", "none"} {
		names.Node(l, name)
		names.Find(l[0], name)
		names.Eq(l[0], name)
		names.Eq(l[1], name)
	}
	if dumpAll(l) != was {
		t.Errorf("R4: what was handed in was changed: %s", dumpAll(l))
	}
	empty := dumpAll(make([]syn.Node, 7)) + dumpAll([]syn.Node{{In: make([]syn.Var, 7), Out: make([]syn.Var, 7), Locals: make([]syn.Var, 5)}})
	room := dumpAll(l[2:9]) + dumpAll([]syn.Node{{In: n.In[2:9], Out: n.Out[2:9], Locals: n.Locals[4:9]}})
	if room != empty {
		t.Errorf("R4: spare room was changed: %s", room)
	}
	for _, q := range n.Eqs[len(n.Eqs):20] {
		if q.Name != "" || q.At != 0 || dump(q.E) != dump(syn.Expr{}) {
			t.Errorf("R4: spare room of equations was changed: %s = %s", q.Name, dump(q.E))
		}
	}
	for _, k := range e.Kids[len(e.Kids):9] {
		if dump(k) != dump(syn.Expr{}) {
			t.Errorf("R4: spare room of kids was changed: %s", dump(k))
		}
	}
}
