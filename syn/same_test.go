package syn_test

import (
	"testing"
	"unsafe"

	"escapement/api"
	"escapement/syn"
)

const whole = "node f(a, b: int; c: bool) returns (y: int); var l, m: int when not c; k: bool; let y = merge c (a) (0 -> b); l = g(1, a) when c; tel node g(x: int) returns (z: int); let z = not x; tel"

// P5.2: alike but for At.
func TestSameButForAt(t *testing.T) {
	one := parse(t, "P5.2", whole)
	two := parse(t, "P5.2", "-- moved\n"+whole)
	if dumpAll(one) == dumpAll(two) {
		t.Fatalf("P5.1: what stands elsewhere has the same At: %s", dumpAll(one))
	}
	if !syn.Same(one, two) || !syn.Same(two, one) {
		t.Errorf("P5.2: Same of a program and the same elsewhere: false")
	}
	if !syn.Same(nil, nil) || !syn.Same(nil, []syn.Node{}) || syn.Same(one, nil) || syn.Same(nil, one) || syn.Same(one, one[:1]) || syn.Same(one[:1], one) {
		t.Errorf("P5.2: Same of more and fewer nodes")
	}
}

// R4: nil and an empty list are one.
func TestSameOfEmptyLists(t *testing.T) {
	a := []syn.Node{{Name: "f", Eqs: []syn.Eq{{E: syn.Expr{Op: "call", Name: "g"}}}}}
	b := []syn.Node{{Name: "f", In: []syn.Var{}, Out: []syn.Var{}, Locals: []syn.Var{}, Eqs: []syn.Eq{{E: syn.Expr{Op: "call", Name: "g", Kids: []syn.Expr{}}}}}}
	if !syn.Same(a, b) || !syn.Same(b, a) || !syn.Same([]syn.Node{{}}, []syn.Node{{Eqs: []syn.Eq{}}}) {
		t.Errorf("R4: Same of nil and empty lists: false")
	}
}

// P5.2: what is not alike, in any one thing.
func TestSameOfOthers(t *testing.T) {
	one := parse(t, "P5.2", whole)
	for name, change := range map[string]func(l []syn.Node){
		"a node's name":      func(l []syn.Node) { l[1].Name = "h" },
		"an input's name":    func(l []syn.Node) { l[0].In[1].Name = "h" },
		"an input's kind":    func(l []syn.Node) { l[0].In[1].Kind = api.Bool },
		"an output's name":   func(l []syn.Node) { l[1].Out[0].Name = "h" },
		"an output's kind":   func(l []syn.Node) { l[1].Out[0].Kind = api.None },
		"a local's name":     func(l []syn.Node) { l[0].Locals[2].Name = "h" },
		"a local's On":       func(l []syn.Node) { l[0].Locals[0].On = "k" },
		"a local's Not":      func(l []syn.Node) { l[0].Locals[1].Not = false },
		"fewer inputs":       func(l []syn.Node) { l[0].In = l[0].In[:2] },
		"no outputs":         func(l []syn.Node) { l[0].Out = nil },
		"more locals":        func(l []syn.Node) { l[1].Locals = append(l[1].Locals, syn.Var{}) },
		"inputs as outputs":  func(l []syn.Node) { l[1].In, l[1].Out = l[1].Out, l[1].In },
		"an equation's name": func(l []syn.Node) { l[0].Eqs[1].Name = "m" },
		"fewer equations":    func(l []syn.Node) { l[0].Eqs = l[0].Eqs[:1] },
		"their order":        func(l []syn.Node) { l[0].Eqs[0], l[0].Eqs[1] = l[0].Eqs[1], l[0].Eqs[0] },
		"nodes' order":       func(l []syn.Node) { l[0], l[1] = l[1], l[0] },
		"an Op":              func(l []syn.Node) { l[1].Eqs[0].E.Op = "pre" },
		"a merge's name":     func(l []syn.Node) { l[0].Eqs[0].E.Name = "d" },
		"a number":           func(l []syn.Node) { l[0].Eqs[0].E.Kids[1].Kids[0].N++ },
		"when not":           func(l []syn.Node) { l[0].Eqs[1].E.N = 0 },
		"a kid's name":       func(l []syn.Node) { l[0].Eqs[1].E.Kids[0].Kids[1].Name = "b" },
		"fewer kids":         func(l []syn.Node) { l[0].Eqs[1].E.Kids[0].Kids = l[0].Eqs[1].E.Kids[0].Kids[:1] },
		"kids' order":        func(l []syn.Node) { k := l[0].Eqs[0].E.Kids; k[0], k[1] = k[1], k[0] },
	} {
		two := parse(t, "P5.2", whole)
		change(two)
		if syn.Same(one, two) || syn.Same(two, one) {
			t.Errorf("P5.2: Same, with %s changed: true", name)
		}
	}
}

// span is the memory of a list, spare room too.
type span struct{ from, to uintptr }

// spanOf tells a list's memory; of no room: none.
func spanOf[T any](l []T) []span {
	if cap(l) == 0 {
		return nil
	}
	from := uintptr(unsafe.Pointer(unsafe.SliceData(l)))
	return []span{{from, from + uintptr(cap(l))*unsafe.Sizeof(l[:1][0])}}
}

// spans are those of all lists of a program.
func spans(l []syn.Node) []span {
	all := spanOf(l)
	for _, n := range l {
		all = append(append(append(append(all, spanOf(n.In)...), spanOf(n.Out)...), spanOf(n.Locals)...), spanOf(n.Eqs)...)
		for _, e := range n.Eqs {
			all = append(all, kidSpans(e.E)...)
		}
	}
	return all
}

func kidSpans(e syn.Expr) []span {
	all := spanOf(e.Kids)
	for _, k := range e.Kids {
		all = append(all, kidSpans(k)...)
	}
	return all
}

// R4: no two lists of one answer, or of two, share memory; R5: nor does a call hang on those ahead.
func TestParseAnswersNewMemory(t *testing.T) {
	var lists [][]syn.Node
	var all []span
	for _, text := range append(samples, whole, whole) {
		l := parse(t, "R4", text)
		lists, all = append(lists, l), append(all, spans(l)...)
	}
	for i, a := range all {
		for _, b := range all[:i] {
			if a.from < b.to && b.from < a.to {
				t.Fatalf("R4: two lists share memory")
			}
		}
	}
	last := lists[len(lists)-1]
	for i := range last {
		last[i].In, last[i].Eqs = nil, nil
	}
	if !syn.Same(lists[len(lists)-2], parse(t, "R5", whole)) {
		t.Errorf("R5: Parse hangs on what was done with an answer ahead")
	}
}

// R4: trees that are handed in are not changed, spare room too.
func TestWritersChangeNothing(t *testing.T) {
	l := parse(t, "R4", whole)
	was := dumpAll(l)
	room := append(make([]syn.Expr, 0, 9), l[0].Eqs[0].E.Kids...)
	l[0].Eqs[0].E.Kids = room
	syn.Show(l)
	syn.Text(l[0].Eqs[0].E)
	syn.Same(l, l)
	if dumpAll(l) != was {
		t.Errorf("R4: what was handed in was changed: %s", dumpAll(l))
	}
	for _, e := range room[len(room):cap(room)] {
		if dump(e) != dump(syn.Expr{}) {
			t.Errorf("R4: spare room was changed: %s", dump(e))
		}
	}
}
