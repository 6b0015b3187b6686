package front_test

import (
	"fmt"
	"slices"
	"strings"
	"testing"

	"escapement/api"
	"escapement/front"
	"escapement/syn"
)

// holdMain holds that the main node is that one, with where it stands.
func holdMain(t *testing.T, l []syn.Node, want syn.Node) {
	t.Helper()
	if n := front.Main(l); dump([]syn.Node{n}) != dump([]syn.Node{want}) {
		t.Errorf("P11.1: Main of %.2000s: %.2000s, want %.2000s", dump(l), dump([]syn.Node{n}), dump([]syn.Node{want}))
	}
}

// P11.1: the last node, whatever it is.
func TestMainOfPrograms(t *testing.T) {
	for _, text := range samples {
		l := holdProgram(t, text)
		for k := range l {
			holdMain(t, l[:k+1], l[k])
			holdMain(t, l[k:], l[len(l)-1])
		}
	}
	l := holdProgram(t, node("a", "x")+node("main", "x + 1")+node("b", "main(x, c)")+node("c", "2"))
	if n := front.Main(l); n.Name != "c" || n.At != l[3].At || len(n.In) != 2 || len(n.Out) != 1 || len(n.Locals) != 0 || len(n.Eqs) != 1 || n.Eqs[0].E.N != 2 {
		t.Errorf("P11.1: Main: %v", n)
	}
	if n := front.Main(l[:3]); n.Name != "b" || syn.Text(n.Eqs[0].E) != "main(x, c)" || n.Eqs[0].E.Kids[1].Name != "c" || n.Eqs[0].E.Kids[1].At != l[2].Eqs[0].E.Kids[1].At {
		t.Errorf("P11.1: Main: %v", n)
	}
}

// P11.1: the zero node of none, even where one stands in the spare room.
func TestMainOfNone(t *testing.T) {
	holdMain(t, nil, syn.Node{})
	holdMain(t, []syn.Node{}, syn.Node{})
	holdMain(t, holdProgram(t, samples[1])[:0], syn.Node{})
	holdMain(t, []syn.Node{{}}, syn.Node{})
	holdMain(t, []syn.Node{{Name: "f"}, {}}, syn.Node{})
	holdMain(t, []syn.Node{{}, {Name: "f", At: -7}}, syn.Node{Name: "f", At: -7})
}

// R4: nil and an empty list are one.
func TestMainOfEmptyLists(t *testing.T) {
	n := syn.Node{Name: "f", In: []syn.Var{}, Out: []syn.Var{}, Locals: []syn.Var{}, Eqs: []syn.Eq{}}
	holdMain(t, []syn.Node{n}, syn.Node{Name: "f"})
	n.Eqs = append(n.Eqs, syn.Eq{Name: "y", E: syn.Expr{Op: "call", Kids: []syn.Expr{}}})
	holdMain(t, []syn.Node{n}, n)
}

// R1, P11.1: trees that no layer told.
func TestMainOfOddTrees(t *testing.T) {
	for _, op := range append(strings.Fields("int bool var call not neg pre + - * / mod = <> < <= > >= and or xor -> fby when if merge what"), "", "\x00") {
		e := syn.Expr{Op: op, Name: "own", N: -5, At: -3}
		for k := range 5 {
			n := syn.Node{Name: op, Out: []syn.Var{{Name: op, Kind: 9, On: op, Not: true, At: k}}, Eqs: []syn.Eq{{Name: op, E: e, At: -1}, {}, {E: e}}, At: 1 << 62}
			holdMain(t, []syn.Node{{Name: "f"}, n}, n)
			e.Kids = append(e.Kids[:k:k], e)
		}
	}
}

// R1: trees of 2^16 parts nested in one another.
func TestMainOfDeepTrees(t *testing.T) {
	const count = 1<<16 - 2
	for _, last := range []bool{false, true} {
		e := syn.Expr{Op: "var", Name: "x", At: count}
		for k := range count {
			kids := []syn.Expr{e}
			if last {
				kids = []syn.Expr{{Op: "int"}, e}
			}
			e = syn.Expr{Op: "call", N: int64(k), At: count - 1 - k, Kids: kids}
		}
		l := []syn.Node{{Eqs: []syn.Eq{{E: e}}}}
		n := front.Main(l)
		if len(n.Eqs) != 1 || !syn.Same(l, []syn.Node{n}) {
			t.Fatalf("R1: Main of a deep tree is another")
		}
		at := n.Eqs[0].E
		for k := range count {
			if at.At != k || len(at.Kids) != len(e.Kids) {
				t.Fatalf("R1: Main of a deep tree: at %d: at %d, with %d kids", k, at.At, len(at.Kids))
			}
			at = at.Kids[len(at.Kids)-1]
		}
	}
}

// R1: nodes of many names and equations, and many nodes, come to an end soon.
func TestMainOfWideTrees(t *testing.T) {
	const count = 100000
	n := syn.Node{Name: "f", In: make([]syn.Var, count), Out: make([]syn.Var, count), Locals: make([]syn.Var, count), Eqs: make([]syn.Eq, count)}
	n.Eqs[count-1].E.Kids = make([]syn.Expr, count)
	n.Eqs[count-1].E.Kids[count-1].Name = "x"
	l := make([]syn.Node, count)
	l[count-1] = n
	if m := front.Main(l); len(m.Locals) != count || !syn.Same([]syn.Node{m}, l[count-1:]) {
		t.Errorf("R1: Main of many is another")
	}
}

// roomy is a program whose lists all have spare room, with something in it.
func roomy(l []syn.Node) []syn.Node {
	var exprs func(l []syn.Expr) []syn.Expr
	exprs = func(l []syn.Expr) []syn.Expr {
		var all []syn.Expr
		for _, e := range l {
			e.Kids = exprs(e.Kids)
			all = append(all, e)
		}
		return append(all, syn.Expr{Op: "spare"}, syn.Expr{Op: "spare"})[:len(l)]
	}
	vars := func(l []syn.Var) []syn.Var {
		return append(slices.Clone(l), syn.Var{Name: "spare"}, syn.Var{Name: "spare"})[:len(l)]
	}
	var all []syn.Node
	for _, n := range l {
		n.In, n.Out, n.Locals = vars(n.In), vars(n.Out), vars(n.Locals)
		n.Eqs = append(slices.Clone(n.Eqs), syn.Eq{Name: "spare"}, syn.Eq{Name: "spare"})[:len(n.Eqs)]
		for i := range n.Eqs {
			n.Eqs[i].E.Kids = exprs(n.Eqs[i].E.Kids)
		}
		all = append(all, n)
	}
	return append(all, syn.Node{Name: "spare"}, syn.Node{Name: "spare"})[:len(l)]
}

// dumpRoom tells all of a program, spare room too.
func dumpRoom(l []syn.Node) string {
	var s strings.Builder
	for _, at := range places(l) {
		switch at := at.(type) {
		case *syn.Node:
			fmt.Fprintln(&s, at.Name, at.At, len(at.In), len(at.Out), len(at.Locals), len(at.Eqs))
		case *syn.Var:
			fmt.Fprintln(&s, *at)
		case *syn.Eq:
			fmt.Fprintln(&s, at.Name, at.At, at.E.Op, at.E.Name, at.E.N, at.E.At, len(at.E.Kids))
		case *syn.Expr:
			fmt.Fprintln(&s, at.Op, at.Name, at.N, at.At, len(at.Kids))
		}
	}
	return s.String()
}

// R4, R5: Main changes nothing of what is handed in, and shares nothing with it, nor with what it told ahead; what it told
// may be written to.
func TestMainIsNew(t *testing.T) {
	for _, text := range samples {
		for _, l := range [][]syn.Node{holdProgram(t, text), roomy(holdProgram(t, text))} {
			was := dumpRoom(l)
			a, b := front.Main(l), front.Main(l)
			want := dump([]syn.Node{b})
			if strings.Contains(want, "spare") {
				t.Errorf("P11.1: Main tells spare room: %s", want)
			}
			all := places(l)
			all = append(all, places([]syn.Node{a})...)
			holdApart(t, text, append(all, places([]syn.Node{b})...))
			spoil([]syn.Node{a})
			if dump([]syn.Node{b}) != want || dumpRoom(l) != was {
				t.Errorf("R4: writing to what Main told of %s changes what was handed in, or told", text)
			}
			spoil(l)
			if dump([]syn.Node{b}) != want {
				t.Errorf("R4: what Main told is changed by writing to what was handed in")
			}
		}
	}
}

// R4: no two lists of what is told share any memory, even if those handed in do.
func TestMainPartsWhatIsShared(t *testing.T) {
	vars := []syn.Var{{Name: "x", Kind: api.Int}}
	kids := []syn.Expr{{Op: "var", Name: "x"}, {Op: "int", N: 7}}
	twice := []syn.Expr{{Op: "+", Kids: kids}, {Op: "-", Kids: kids}}
	e := syn.Expr{Op: "call", Kids: twice}
	n := syn.Node{In: vars, Out: vars, Locals: vars[:0:0], Eqs: []syn.Eq{{E: e}, {E: e}, {E: syn.Expr{Kids: kids[:1]}}}}
	holdMain(t, []syn.Node{n}, n)
	holdApart(t, "shared lists", places([]syn.Node{front.Main([]syn.Node{n})}))
}
