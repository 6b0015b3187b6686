package typ_test

import (
	"fmt"
	"math/rand"
	"slices"
	"strconv"
	"strings"
	"testing"

	"escapement/api"
	"escapement/names"
	"escapement/syn"
	"escapement/typ"
)

// slowNamed tells the letter of the first that a node declares so.
func slowNamed(n syn.Node, name string) string {
	for _, v := range slices.Concat(n.In, n.Out, n.Locals) {
		if v.Name == name {
			return letters[v.Kind]
		}
	}
	return "n"
}

// slowKind tells an expression's letter by the rules, each part by itself.
func slowKind(l []syn.Node, node int, e syn.Expr) string {
	kinds, rule := "", rules[e.Op]
	if named(e.Op) {
		kinds = slowNamed(l[node], e.Name)
	}
	for _, k := range e.Kids {
		kinds += slowKind(l, node, k)
	}
	at := slices.IndexFunc(l[:node], func(n syn.Node) bool { return n.Name == e.Name })
	if e.Op == "call" && at >= 0 && len(l[at].Out) == 1 {
		for _, v := range l[at].In {
			rule += letters[v.Kind]
		}
		rule += ">" + letters[l[at].Out[0].Kind]
	}
	return byRule(rule, kinds)
}

// parts are an expression's kids and theirs, and then itself.
func parts(e syn.Expr) []syn.Expr {
	var l []syn.Expr
	for _, k := range e.Kids {
		l = append(l, parts(k)...)
	}
	return append(l, e)
}

// slowCheck tells the first fault, and what it is of: the Op of a part, or one of these words.
func slowCheck(l []syn.Node) (api.Fault, string) {
	for i, n := range l {
		for _, v := range n.Locals {
			if v.On != "" && slowNamed(n, v.On) != "b" {
				return api.Fault{Err: api.ETYPE, At: v.At}, "local"
			}
		}
		for _, q := range n.Eqs {
			for _, e := range parts(q.E) {
				if slowKind(l, i, e) == "n" {
					return api.Fault{Err: api.ETYPE, At: e.At}, e.Op
				}
			}
			if slowKind(l, i, q.E) != slowNamed(n, q.Name) {
				return api.Fault{Err: api.ETYPE, At: q.At}, "equation"
			}
		}
	}
	return api.Fault{}, "none"
}

// maker makes programs at random.
type maker struct {
	r  *rand.Rand
	at int
}

// place tells a place where nothing else stands; later in the program isn't further on in the text.
func (m *maker) place() int {
	m.at += 1 + m.r.Intn(3)
	if m.r.Intn(2) == 0 {
		return -m.at
	}
	return m.at
}

func pick[T any](m *maker, l []T) T { return l[m.r.Intn(len(l))] }

// vars declares so many names that stand nowhere else.
func (m *maker) vars(n int) []syn.Var {
	var l []syn.Var
	for range n {
		at := m.place()
		l = append(l, syn.Var{Name: "v" + strconv.Itoa(at), Kind: api.Kind(1 + m.r.Intn(2)), At: at})
	}
	return l
}

// name tells one of that kind, if there is one.
func (m *maker) name(vars []syn.Var, kind string) (string, bool) {
	of := slices.DeleteFunc(slices.Clone(vars), func(v syn.Var) bool { return letters[v.Kind] != kind })
	if len(of) == 0 {
		return "", false
	}
	return pick(m, of).Name, true
}

// written is an int or a bool that is written.
func (m *maker) written(kind string) syn.Expr {
	return syn.Expr{Op: map[string]string{"b": "bool", "i": "int"}[kind], N: m.r.Int63n(2), At: m.place()}
}

// call makes one of a node of that kind, if there is one.
func (m *maker) call(l []syn.Node, vars []syn.Var, kind string, depth int) syn.Expr {
	of := slices.DeleteFunc(slices.Clone(l), func(n syn.Node) bool { return len(n.Out) != 1 || letters[n.Out[0].Kind] != kind })
	if len(of) == 0 {
		return m.written(kind)
	}
	n := pick(m, of)
	e := syn.Expr{Op: "call", Name: n.Name, At: m.place()}
	for _, v := range n.In {
		e.Kids = append(e.Kids, m.expr(l, vars, letters[v.Kind], depth-1))
	}
	return e
}

// expr makes an expression of that kind.
func (m *maker) expr(l []syn.Node, vars []syn.Var, kind string, depth int) syn.Expr {
	ops := []string{"var"}
	if depth > 0 {
		ops = []string{"var", "call", "call", "not", "neg", "pre", "+", "-", "*", "/", "mod", "=", "<>", "<", "<=", ">", ">=", "and", "or", "xor", "->", "fby", "when", "if", "merge"}
	}
	op := pick(m, ops)
	if op == "call" {
		return m.call(l, vars, kind, depth)
	}
	fits := slices.DeleteFunc(strings.Fields(rules[op]), func(r string) bool { return !strings.HasSuffix(r, ">"+kind) })
	if len(fits) == 0 {
		return m.written(kind)
	}
	kids, _, _ := strings.Cut(pick(m, fits), ">")
	e := syn.Expr{Op: op, N: m.r.Int63n(2), At: m.place()}
	if named(op) {
		name, ok := m.name(vars, kids[:1])
		if !ok {
			return m.written(kind)
		}
		e.Name, kids = name, kids[1:]
	}
	for _, k := range kids {
		e.Kids = append(e.Kids, m.expr(l, vars, string(k), depth-1))
	}
	return e
}

// node makes one without a fault, behind those.
func (m *maker) node(l []syn.Node) syn.Node {
	n := syn.Node{Name: "f" + strconv.Itoa(len(l)), At: m.place(), In: m.vars(m.r.Intn(4)), Out: m.vars(1 + m.r.Intn(3)/2), Locals: m.vars(m.r.Intn(4))}
	vars := slices.Concat(n.In, n.Out, n.Locals)
	for k := range n.Locals {
		on, ok := m.name(vars[:len(n.In)+len(n.Out)+k], "b")
		if ok && m.r.Intn(2) == 0 {
			n.Locals[k].On, n.Locals[k].Not = on, m.r.Intn(2) == 0
		}
	}
	for _, k := range m.r.Perm(len(n.Out) + len(n.Locals)) {
		v := vars[len(n.In)+k]
		n.Eqs = append(n.Eqs, syn.Eq{Name: v.Name, E: m.expr(l, vars, letters[v.Kind], 3), At: m.place()})
	}
	return n
}

func (m *maker) program() []syn.Node {
	var l []syn.Node
	for range 1 + m.r.Intn(4) {
		l = append(l, m.node(l))
	}
	return l
}

// spoil changes one thing, which may make a fault.
func (m *maker) spoil(l []syn.Node) {
	n := &l[m.r.Intn(len(l))]
	vars := slices.Concat(n.In, n.Out, n.Locals)
	q := &n.Eqs[m.r.Intn(len(n.Eqs))]
	switch sort := m.r.Intn(8); {
	case sort == 0 && len(n.In) > 0:
		n.In[m.r.Intn(len(n.In))].Kind = api.Kind(1 + m.r.Intn(2))
	case sort == 1:
		n.Out[m.r.Intn(len(n.Out))].Kind = api.Kind(1 + m.r.Intn(2))
	case sort == 2 && len(n.Locals) > 0:
		n.Locals[m.r.Intn(len(n.Locals))].Kind = api.Kind(1 + m.r.Intn(2))
	case sort == 3 && len(n.Locals) > 0:
		k := m.r.Intn(len(n.Locals))
		n.Locals[k].On = pick(m, vars[:len(vars)-len(n.Locals)+k]).Name
	case sort == 4:
		p := &n.Eqs[m.r.Intn(len(n.Eqs))]
		q.E, p.E = p.E, q.E
	case sort == 5:
		*m.part(&q.E) = m.copied(pick(m, parts(n.Eqs[0].E)))
	default:
		m.spoilPart(m.part(&q.E), vars)
	}
}

// part is some part of an expression.
func (m *maker) part(e *syn.Expr) *syn.Expr {
	for len(e.Kids) > 0 && m.r.Intn(3) > 0 {
		e = &e.Kids[m.r.Intn(len(e.Kids))]
	}
	return e
}

// copied is an expression that stands elsewhere.
func (m *maker) copied(e syn.Expr) syn.Expr {
	var kids []syn.Expr
	for _, k := range e.Kids {
		kids = append(kids, m.copied(k))
	}
	e.At, e.Kids = m.place(), kids
	return e
}

// spoilPart gives a part another Op with as many kids, or other kids, or another name.
func (m *maker) spoilPart(e *syn.Expr, vars []syn.Var) {
	alike := [][]string{{"int", "bool", "var"}, {"not", "neg", "pre", "when"}, {"+", "mod", "=", "<", "and", "->", "fby", "merge"}}
	if e.Op != "call" && len(e.Kids) < len(alike) && m.r.Intn(2) == 0 {
		e.Op = pick(m, alike[len(e.Kids)])
		e.Name = map[bool]string{true: pick(m, vars).Name}[named(e.Op)]
		return
	}
	if len(e.Kids) > 0 && m.r.Intn(2) == 0 {
		e.Kids[m.r.Intn(len(e.Kids))] = syn.Expr{Op: "var", Name: pick(m, vars).Name, At: m.place()}
		return
	}
	if named(e.Op) {
		e.Name = pick(m, vars).Name
	}
}

// checkSlow holds Check against the chapter's list, gone through slowly, and tells what the fault is of.
func checkSlow(t *testing.T, l []syn.Node) string {
	t.Helper()
	want, of := slowCheck(l)
	if f := typ.Check(l); f != want {
		t.Errorf("P7.2: Check of\n%s(%+v): %v at %d, want %v at %d", syn.Show(l), l, f.Err, f.At, want.Err, want.At)
	}
	return of
}

// checkOfs holds Of for each part, in each node of the program.
func checkOfs(t *testing.T, l []syn.Node) {
	t.Helper()
	for _, n := range l {
		for _, q := range n.Eqs {
			for _, e := range parts(q.E) {
				for i := range l {
					if k, want := typ.Of(l, i, e), slowKind(l, i, e); letters[k] != want {
						t.Errorf("P7.1: Of(%s) in node %d of\n%s: %s, want %s", syn.Text(e), i, syn.Show(l), letters[k], want)
					}
				}
			}
		}
	}
}

// P7.1, P7.2, R4, R5: programs at random, of which nothing or some things are spoilt.
func TestPrograms(t *testing.T) {
	if testing.Short() {
		t.Skip("it takes a few seconds")
	}
	m := &maker{r: rand.New(rand.NewSource(7))}
	seen := map[string]int{}
	for range 10000 {
		if t.Failed() {
			return
		}
		l := m.program()
		if checkSlow(t, l) != "none" || names.Check(l).Err != api.OK {
			t.Errorf("P7.2: a fault of what was made without one: %+v", l)
		}
		for range m.r.Intn(4) {
			m.spoil(l)
		}
		if names.Check(l).Err != api.OK {
			t.Errorf("P7.2: what was spoilt has a fault of names: %+v", l)
		}
		was := fmt.Sprintf("%+v", l)
		seen[checkSlow(t, l)]++
		checkOfs(t, l)
		if checkSlow(t, l); fmt.Sprintf("%+v", l) != was {
			t.Errorf("R4: what was handed in was changed: %+v, and was %s", l, was)
		}
	}
	for _, of := range []string{"none", "local", "equation", "call", "not", "neg", "+", "-", "*", "/", "mod", "=", "<>", "<", "<=", ">", ">=", "and", "or", "xor", "->", "fby", "when", "if", "merge"} {
		if seen[of] < 20 {
			t.Errorf("of all faults, those of %s were made %d times", of, seen[of])
		}
	}
}

// roomy is a program whose lists all have spare room, with something in it.
func roomy(l []syn.Node) []syn.Node {
	var expr func(e syn.Expr) syn.Expr
	expr = func(e syn.Expr) syn.Expr {
		var kids []syn.Expr
		for _, k := range e.Kids {
			kids = append(kids, expr(k))
		}
		e.Kids = append(kids, syn.Expr{Op: "spare"}, syn.Expr{Op: "spare"})[:len(kids)]
		return e
	}
	vars := func(l []syn.Var) []syn.Var {
		return append(slices.Clone(l), syn.Var{Name: "spare"}, syn.Var{Name: "spare"})[:len(l)]
	}
	var all []syn.Node
	for _, n := range l {
		n.In, n.Out, n.Locals = vars(n.In), vars(n.Out), vars(n.Locals)
		n.Eqs = append(slices.Clone(n.Eqs), syn.Eq{Name: "spare"}, syn.Eq{Name: "spare"})[:len(n.Eqs)]
		for i := range n.Eqs {
			n.Eqs[i].E = expr(n.Eqs[i].E)
		}
		all = append(all, n)
	}
	return append(all, syn.Node{Name: "spare"}, syn.Node{Name: "spare"})[:len(l)]
}

// dumpRoom tells all of a program, spare room too.
func dumpRoom(l []syn.Node) string {
	var s strings.Builder
	var expr func(e syn.Expr)
	expr = func(e syn.Expr) {
		fmt.Fprintf(&s, "(%s %s %d %d", e.Op, e.Name, e.N, e.At)
		for _, k := range e.Kids[:cap(e.Kids)] {
			expr(k)
		}
		s.WriteString(")")
	}
	for _, n := range l[:cap(l)] {
		fmt.Fprintf(&s, "%s %d %v %v %v\n", n.Name, n.At, n.In[:cap(n.In)], n.Out[:cap(n.Out)], n.Locals[:cap(n.Locals)])
		for _, q := range n.Eqs[:cap(n.Eqs)] {
			fmt.Fprintf(&s, "%s %d ", q.Name, q.At)
			expr(q.E)
		}
	}
	return s.String()
}

// R4: no call changes what is handed in, spare room too; a program that has it answers as one that hasn't.
func TestCallsChangeNothing(t *testing.T) {
	const text = "node g(a: int; b: bool) returns (y: bool); let y = b; tel node f(x: int; c: bool) returns (y: int; z: bool); var a, b: int when c; let z = g(x + 1, c) and g(-x, true); a = 1 when c; b = a fby a; y = merge c (b) (if z then x else pre y); tel"
	for _, e := range []string{"", " node h(a: int) returns (y: int); let y = a + true; tel"} {
		bare := parse(t, "R4", text+e)
		l := roomy(bare)
		was := dumpRoom(l)
		if typ.Check(l) != typ.Check(bare) {
			t.Errorf("R4: Check with spare room: %v, and without: %v", typ.Check(l), typ.Check(bare))
		}
		for node := range l {
			for k, q := range l[node].Eqs {
				if got, want := typ.Of(l, node, q.E), typ.Of(bare, node, bare[node].Eqs[k].E); got != want {
					t.Errorf("R4: Of(%s) with spare room: %s, and without: %s", syn.Text(q.E), letters[got], letters[want])
				}
			}
		}
		if dumpRoom(l) != was {
			t.Errorf("R4: what was handed in was changed: %s, and was %s", dumpRoom(l), was)
		}
	}
}

// R4: nil and an empty list are one.
func TestEmptyLists(t *testing.T) {
	e := syn.Expr{Op: "int", Kids: []syn.Expr{}}
	n := syn.Node{Name: "f", In: []syn.Var{}, Out: []syn.Var{{Name: "y", Kind: api.Int}}, Locals: []syn.Var{}, Eqs: []syn.Eq{{Name: "y", E: e}}}
	call := syn.Expr{Op: "call", Name: "f", Kids: []syn.Expr{}}
	m := syn.Node{Name: "g", Out: []syn.Var{{Name: "y", Kind: api.Int}}, Eqs: []syn.Eq{{Name: "y", E: call}}}
	if f := typ.Check([]syn.Node{n, m}); f != (api.Fault{}) {
		t.Errorf("R4: Check with empty lists: %v at %d", f.Err, f.At)
	}
	if k := typ.Of([]syn.Node{n, m}, 1, call); k != api.Int {
		t.Errorf("R4: Of a call with an empty list: %s", letters[k])
	}
}

// R1: trees of 2^16 parts nested in one another.
func TestDeepTrees(t *testing.T) {
	const count = 1<<16 - 1
	for _, op := range []string{"neg", "pre", "when", "call", "->", "if"} {
		for _, bad := range []bool{false, true} {
			e := syn.Expr{Op: "int", At: 9}
			if bad {
				e = syn.Expr{Op: "neg", At: 9, Kids: []syn.Expr{{Op: "bool"}}}
			}
			ahead := map[string][]syn.Expr{"->": {{Op: "int"}}, "if": {{Op: "bool"}, {Op: "int"}}}[op]
			for range count - 1 {
				e = syn.Expr{Op: op, Name: map[string]string{"when": "c", "call": "id"}[op], Kids: append(slices.Clone(ahead), e)}
			}
			id := syn.Node{Name: "id", In: []syn.Var{{Name: "x", Kind: api.Int}}, Out: []syn.Var{{Name: "y", Kind: api.Int}}, Eqs: []syn.Eq{{Name: "y", E: syn.Expr{Op: "var", Name: "x"}}}}
			n := syn.Node{Name: "f", In: []syn.Var{{Name: "c", Kind: api.Bool}}, Out: []syn.Var{{Name: "y", Kind: api.Int}}, Eqs: []syn.Eq{{Name: "y", E: e}}}
			want, kind := api.Fault{}, api.Int
			if bad {
				want, kind = api.Fault{Err: api.ETYPE, At: 9}, api.None
			}
			if f := typ.Check([]syn.Node{id, n}); f != want {
				t.Errorf("R1: Check of a deep %s: %v at %d, want %v at %d", op, f.Err, f.At, want.Err, want.At)
			}
			if k := typ.Of([]syn.Node{id, n}, 1, e); k != kind {
				t.Errorf("R1: Of a deep %s: %s", op, letters[k])
			}
		}
	}
}

// R1: a node of far more names than a text may declare, as one that was made of many, comes to an end soon.
func TestWideNode(t *testing.T) {
	const count = 100000
	n := syn.Node{Name: "f", Out: []syn.Var{{Name: "v0", Kind: api.Bool}}, Eqs: []syn.Eq{{Name: "v0", E: syn.Expr{Op: "bool"}}}}
	for k := 1; k < count; k++ {
		name, ahead := "v"+strconv.Itoa(k), "v"+strconv.Itoa(k-1)
		n.Locals = append(n.Locals, syn.Var{Name: name, Kind: api.Bool, On: ahead, At: k})
		n.Eqs = append(n.Eqs, syn.Eq{Name: name, E: syn.Expr{Op: "var", Name: ahead}, At: -k})
	}
	if f := typ.Check([]syn.Node{n}); f != (api.Fault{}) {
		t.Errorf("R1: Check of many names: %v at %d", f.Err, f.At)
	}
	n.Locals[count-2].Kind = api.Int
	if f := typ.Check([]syn.Node{n}); f != (api.Fault{Err: api.ETYPE, At: 1 - count}) {
		t.Errorf("P7.2: Check of many names, the last of another kind: %v at %d", f.Err, f.At)
	}
	n.Locals[count-3].Kind = api.Int
	if f := typ.Check([]syn.Node{n}); f != (api.Fault{Err: api.ETYPE, At: count - 1}) {
		t.Errorf("P7.2: Check of many names, the last but one of another kind: %v at %d", f.Err, f.At)
	}
}

// P7.2: a program at the limits: as many nodes as may be, each with as many names, the last of them with a fault or none.
func TestLimits(t *testing.T) {
	for _, bad := range []string{"", "^"} {
		var s strings.Builder
		for k := range api.MaxNodes {
			fmt.Fprintf(&s, "node f%d(i0", k)
			for v := 1; v < api.MaxVars-2; v++ {
				fmt.Fprintf(&s, ",i%d", v)
			}
			s.WriteString(": int; c: bool) returns (y: int); let y = ")
			if k == 0 {
				s.WriteString("i0")
			} else {
				fmt.Fprintf(&s, "f%d(i0%s, c)", k-1, strings.Repeat(",1", api.MaxVars-3))
			}
			if k == api.MaxNodes-1 && bad != "" {
				s.WriteString(" ^+ c")
			}
			s.WriteString("; tel ")
		}
		check(t, s.String())
	}
}

// P7.1, P7.2, R1: any program that syn reads and names has no fault of.
func FuzzCheck(f *testing.F) {
	for _, text := range []string{
		"node f() returns (y: int); let y = 1 + true; tel",
		"node f(x: int; c: bool) returns (y: int); var a: int when not c; let y = merge c (x when c) a; a = pre a when not c; tel",
		inNode("if g(x, c) then 0 -> pre x else 1 fby y mod 2"),
		inNode("g(x, x) and not x"),
	} {
		f.Add(text)
	}
	f.Fuzz(func(t *testing.T, text string) {
		l, fault := syn.Parse(text)
		if fault.Err != api.OK || names.Check(l).Err != api.OK {
			return
		}
		checkSlow(t, l)
		for i, n := range l {
			for _, q := range n.Eqs {
				if k, want := typ.Of(l, i, q.E), slowKind(l, i, q.E); letters[k] != want {
					t.Errorf("P7.1: Of(%s) in node %d of\n%s: %s, want %s", syn.Text(q.E), i, syn.Show(l), letters[k], want)
				}
			}
		}
	})
}
