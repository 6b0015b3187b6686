package names_test

import (
	"math/rand"
	"slices"
	"strconv"
	"testing"

	"escapement/api"
	"escapement/names"
	"escapement/syn"
)

// The faults that the document names, in its order.
const (
	sameNode = iota
	noOutputs
	sameName
	lateOn
	noneToDefine
	definedTwice
	unknownName
	unknownNode
	notOneOutput
	otherArguments
	noEquation
	faults
)

// wrong is a fault: which it is, and where.
type wrong struct{ sort, at int }

// slowWrongs are all faults of a node, in the document's order: each is asked by itself, by going through all again.
func slowWrongs(l []syn.Node, i int) []wrong {
	n := l[i]
	var all []wrong
	add := func(is bool, sort, at int) {
		if is {
			all = append(all, wrong{sort, at})
		}
	}
	named := func(name string) func(v syn.Var) bool { return func(v syn.Var) bool { return v.Name == name } }
	add(slices.ContainsFunc(l[:i], func(m syn.Node) bool { return m.Name == n.Name }), sameNode, n.At)
	add(len(n.Out) == 0, noOutputs, n.At)
	vars := slices.Concat(n.In, n.Out, n.Locals)
	for k, v := range vars {
		add(slices.ContainsFunc(vars[:k], named(v.Name)), sameName, v.At)
		local := k >= len(n.In)+len(n.Out)
		add(local && v.On != "" && !slices.ContainsFunc(vars[:k], named(v.On)), lateOn, v.At)
	}
	for k, q := range n.Eqs {
		add(!slices.ContainsFunc(vars[len(n.In):], named(q.Name)), noneToDefine, q.At)
		add(slices.ContainsFunc(n.Eqs[:k], func(p syn.Eq) bool { return p.Name == q.Name }), definedTwice, q.At)
		for _, e := range parts(q.E) {
			at := slices.IndexFunc(l[:i], func(m syn.Node) bool { return m.Name == e.Name })
			switch {
			case slices.Contains([]string{"var", "when", "merge"}, e.Op):
				add(!slices.ContainsFunc(vars, named(e.Name)), unknownName, e.At)
			case e.Op == "call" && at < 0:
				add(true, unknownNode, e.At)
			case e.Op == "call":
				add(len(l[at].Out) != 1, notOneOutput, e.At)
				add(len(l[at].In) != len(e.Kids), otherArguments, e.At)
			}
		}
	}
	for _, v := range vars[len(n.In):] {
		add(!slices.ContainsFunc(n.Eqs, func(q syn.Eq) bool { return q.Name == v.Name }), noEquation, v.At)
	}
	return all
}

// parts are an expression and its kids and theirs.
func parts(e syn.Expr) []syn.Expr {
	l := []syn.Expr{e}
	for _, k := range e.Kids {
		l = append(l, parts(k)...)
	}
	return l
}

// slowCheck tells the first fault, and which it is.
func slowCheck(l []syn.Node) (api.Fault, int) {
	for i := range l {
		if all := slowWrongs(l, i); len(all) > 0 {
			return api.Fault{Err: api.ENAME, At: all[0].at}, all[0].sort
		}
	}
	return api.Fault{}, faults
}

// maker makes programs at random.
type maker struct {
	r  *rand.Rand
	at int
}

// place tells a place where nothing else stands; later in the program isn't further on in the text.
func (m *maker) place() int {
	m.at += 1 + m.r.Intn(3)
	if m.r.Intn(2) == 0 {
		return -m.at
	}
	return m.at
}

func (m *maker) name() string { return "v" + strconv.Itoa(m.r.Intn(9)) }

// vars declares some names that are not declared ahead.
func (m *maker) vars(n int, ahead []syn.Var) []syn.Var {
	var l []syn.Var
	for len(l) < n {
		v := syn.Var{Name: m.name(), Kind: api.Kind(m.r.Intn(3)), At: m.place()}
		if slices.ContainsFunc(slices.Concat(ahead, l), func(w syn.Var) bool { return w.Name == v.Name }) {
			continue
		}
		l = append(l, v)
	}
	return l
}

// expr makes an expression that names what is declared, and calls those ahead.
func (m *maker) expr(l []syn.Node, vars []syn.Var, depth int) syn.Expr {
	ops := []string{"int", "bool", "var", "var", "call", "not", "neg", "pre", "+", "mod", "=", "and", "->", "fby", "when", "if", "merge"}
	few := map[string]int{"not": 1, "neg": 1, "pre": 1, "when": 1, "if": 3, "int": 0, "bool": 0, "var": 0}
	e := syn.Expr{Op: ops[m.r.Intn(len(ops))], N: m.r.Int63n(2), At: m.place()}
	if depth == 0 {
		e.Op = ops[m.r.Intn(3)]
	}
	kids, ok := few[e.Op]
	if !ok {
		kids = 2
	}
	switch e.Op {
	case "var", "when", "merge":
		e.Name = vars[m.r.Intn(len(vars))].Name
	case "call":
		var of []syn.Node
		for _, n := range l {
			if len(n.Out) == 1 {
				of = append(of, n)
			}
		}
		if len(of) == 0 {
			return syn.Expr{Op: "int", At: e.At}
		}
		n := of[m.r.Intn(len(of))]
		e.Name, kids = n.Name, len(n.In)
	}
	for range kids {
		e.Kids = append(e.Kids, m.expr(l, vars, depth-1))
	}
	return e
}

// node makes one without a fault, behind those.
func (m *maker) node(l []syn.Node) syn.Node {
	n := syn.Node{Name: "f" + strconv.Itoa(len(l)), At: m.place()}
	n.In = m.vars(m.r.Intn(3), nil)
	n.Out = m.vars(1+m.r.Intn(3)/2, n.In)
	n.Locals = m.vars(m.r.Intn(4), slices.Concat(n.In, n.Out))
	vars := slices.Concat(n.In, n.Out, n.Locals)
	for k := range n.Locals {
		if m.r.Intn(2) == 0 {
			n.Locals[k].On = vars[m.r.Intn(len(n.In)+len(n.Out)+k)].Name
			n.Locals[k].Not = m.r.Intn(2) == 0
		}
	}
	for _, k := range m.r.Perm(len(n.Out) + len(n.Locals)) {
		n.Eqs = append(n.Eqs, syn.Eq{Name: vars[len(n.In)+k].Name, E: m.expr(l, vars, 3), At: m.place()})
	}
	return n
}

func (m *maker) program() []syn.Node {
	var l []syn.Node
	for range 1 + m.r.Intn(4) {
		l = append(l, m.node(l))
	}
	return l
}

// pick is one of a list; nil: it has none.
func pick[T any](m *maker, l []T) *T {
	if len(l) == 0 {
		return nil
	}
	return &l[m.r.Intn(len(l))]
}

// spoil changes one thing, which may make a fault.
func (m *maker) spoil(l []syn.Node) {
	n := pick(m, l)
	vars := *pick(m, [][]syn.Var{n.In, n.Out, n.Locals})
	v, q := pick(m, vars), pick(m, n.Eqs)
	switch sort := m.r.Intn(10); {
	case sort == 0:
		n.Name = "f" + strconv.Itoa(m.r.Intn(5))
	case sort == 1:
		n.Out = n.Out[:m.r.Intn(len(n.Out)+1)]
	case sort == 2 && v != nil:
		v.Name = m.name()
	case sort == 3 && v != nil:
		v.On = m.name()
	case sort == 4 && q != nil:
		q.Name = m.name()
	case sort == 5 && q != nil:
		*q = n.Eqs[len(n.Eqs)-1]
		n.Eqs = n.Eqs[:len(n.Eqs)-1]
	case sort == 6 && q != nil:
		n.Eqs = append(n.Eqs, syn.Eq{Name: q.Name, E: *pick(m, parts(q.E)), At: m.place()})
	case sort == 7 && v != nil:
		n.In = append(n.In, syn.Var{Name: v.Name + "x", At: m.place()})
	case sort == 8 && q != nil:
		n.Out = append(n.Out, syn.Var{Name: q.Name + "x", At: m.place()})
		n.Eqs = append(n.Eqs, syn.Eq{Name: q.Name + "x", At: m.place()})
	case q != nil:
		m.spoilPart(&q.E)
	}
}

// spoilPart changes one part of an expression.
func (m *maker) spoilPart(e *syn.Expr) {
	for len(e.Kids) > 0 && m.r.Intn(3) > 0 {
		e = pick(m, e.Kids)
	}
	switch {
	case e.Op == "call" && m.r.Intn(2) == 0:
		e.Name = "f" + strconv.Itoa(m.r.Intn(5))
	case m.r.Intn(2) == 0:
		e.Kids = append(e.Kids, syn.Expr{Op: "var", Name: m.name(), At: m.place()})
	case len(e.Kids) > 0 && m.r.Intn(2) == 0:
		e.Kids = e.Kids[1:]
	default:
		e.Name = m.name()
	}
}

// checkSlow holds Check against the document's list, gone through slowly, and tells which fault it is.
func checkSlow(t *testing.T, l []syn.Node) int {
	t.Helper()
	want, sort := slowCheck(l)
	if f := names.Check(l); f != want {
		t.Errorf("P6.1: Check of %s: %v at %d, want %v at %d", dumpAll(l), f.Err, f.At, want.Err, want.At)
	}
	return sort
}

// checkFinds holds Node, Find and Eq of all names that may be there.
func checkFinds(t *testing.T, l []syn.Node) {
	t.Helper()
	for k := range 10 {
		name := "f" + strconv.Itoa(k)
		want := slices.IndexFunc(l, func(n syn.Node) bool { return n.Name == name })
		if at := names.Node(l, name); at != want {
			t.Errorf("P6.2: Node(%s) of %s: %d, want %d", name, dumpAll(l), at, want)
		}
	}
	for _, n := range l {
		for k := range 10 {
			name := "v" + strconv.Itoa(k)
			vars := append(slices.Concat(n.In, n.Out, n.Locals), syn.Var{})
			at := slices.IndexFunc(vars[:len(vars)-1], func(v syn.Var) bool { return v.Name == name })
			if v, ok := names.Find(n, name); ok != (at >= 0) || v != vars[(at+len(vars))%len(vars)] {
				t.Errorf("P6.2: Find(%s) in %s: %+v, %v", name, dumpAll(l), v, ok)
			}
			eqs := append(slices.Clone(n.Eqs), syn.Eq{})
			at = slices.IndexFunc(eqs[:len(eqs)-1], func(q syn.Eq) bool { return q.Name == name })
			want := eqs[(at+len(eqs))%len(eqs)]
			if q, ok := names.Eq(n, name); ok != (at >= 0) || q.Name != want.Name || q.At != want.At || dump(q.E) != dump(want.E) {
				t.Errorf("P6.2: Eq(%s) in %s: %s at %d, %v", name, dumpAll(l), q.Name, q.At, ok)
			}
		}
	}
}

// P6.1, P6.2, R1, R4, R5: programs at random, of which nothing or some things are spoilt.
func TestPrograms(t *testing.T) {
	if testing.Short() {
		t.Skip("it takes a few seconds")
	}
	m := &maker{r: rand.New(rand.NewSource(6))}
	var seen [faults + 1]int
	for range 10000 {
		if t.Failed() {
			return
		}
		l := m.program()
		if checkSlow(t, l) != faults {
			t.Errorf("P6.1: %s has a fault", dumpAll(l))
		}
		for range m.r.Intn(4) {
			m.spoil(l)
		}
		was := dumpAll(l)
		seen[checkSlow(t, l)]++
		checkFinds(t, l)
		if checkSlow(t, l); dumpAll(l) != was {
			t.Errorf("R4: what was handed in was changed: %s, and was %s", dumpAll(l), was)
		}
	}
	for sort, n := range seen {
		if n < 50 {
			t.Errorf("of all faults, number %d was made %d times", sort, n)
		}
	}
}

// P6.1: trees that Parse never tells.
func TestOddTrees(t *testing.T) {
	x, y := syn.Var{Name: "x"}, syn.Var{Name: "y"}
	bad := syn.Expr{Op: "var", Name: "z", At: 7}
	eq := func(e syn.Expr) []syn.Node {
		return []syn.Node{{Out: []syn.Var{x}, Eqs: []syn.Eq{{Name: "x", E: e, At: -1}}}}
	}
	for _, c := range []struct {
		l  []syn.Node
		at int // 0: there is no fault
	}{
		{[]syn.Node{{At: -5}}, -5},
		{eq(syn.Expr{}), 0},
		{eq(syn.Expr{Op: "Var", Name: "z"}), 0},
		{eq(syn.Expr{Op: "int", Name: "z"}), 0},
		{eq(syn.Expr{Op: "none", Kids: []syn.Expr{{Op: "call", At: 5}, bad}}), 5},
		{eq(syn.Expr{Op: "none", Kids: []syn.Expr{{Op: "var", Name: "x"}, bad}}), 7},
		{eq(syn.Expr{Op: "int", Kids: []syn.Expr{bad}}), 7},
		{eq(syn.Expr{Op: "var", Name: "x", Kids: []syn.Expr{bad}}), 7},
		{eq(syn.Expr{Op: "merge", Name: "x"}), 0},
		{eq(syn.Expr{Op: "merge", Name: "x", Kids: []syn.Expr{{}, {}, {}, bad}}), 7},
		{eq(syn.Expr{Op: "var", At: -3}), -3},
		{[]syn.Node{{Out: []syn.Var{{}}, Eqs: []syn.Eq{{E: syn.Expr{Op: "var"}}}}}, 0},
		{[]syn.Node{{Out: []syn.Var{{}, {At: 4}}}}, 4},
		{[]syn.Node{{In: []syn.Var{{Name: "x", On: "q", At: 1}}, Out: []syn.Var{{Name: "y", On: "y", At: 2}}, Eqs: []syn.Eq{{Name: "y"}}}}, 0},
		{[]syn.Node{{Out: []syn.Var{y}, Locals: []syn.Var{{Name: "x", Not: true}}, Eqs: []syn.Eq{{Name: "x"}, {Name: "y"}}}}, 0},
		{append(eq(syn.Expr{}), syn.Node{Out: []syn.Var{x}, At: 3}), 3},
	} {
		want := api.Fault{Err: api.ENAME, At: c.at}
		if c.at == 0 {
			want = api.Fault{}
		}
		if f := names.Check(c.l); f != want {
			t.Errorf("P6.1: Check of %s: %v at %d, want %v at %d", dumpAll(c.l), f.Err, f.At, want.Err, want.At)
		}
	}
}

// R4: nil and an empty list are one.
func TestEmptyLists(t *testing.T) {
	some := []syn.Node{{Name: "f", In: []syn.Var{}, Out: []syn.Var{{Name: "y"}}, Locals: []syn.Var{}, Eqs: []syn.Eq{{Name: "y", E: syn.Expr{Op: "int", Kids: []syn.Expr{}}}}}}
	if f := names.Check(some); f != (api.Fault{}) {
		t.Errorf("R4: Check with empty lists: %v at %d", f.Err, f.At)
	}
	none := []syn.Node{{Name: "f", Out: []syn.Var{}, At: 2}}
	if f := names.Check(none); f != (api.Fault{Err: api.ENAME, At: 2}) {
		t.Errorf("R4: Check of an empty list of outputs: %v at %d", f.Err, f.At)
	}
	if f := names.Check([]syn.Node{}); f != (api.Fault{}) {
		t.Errorf("R4: Check of an empty list: %v at %d", f.Err, f.At)
	}
}

// R1: trees of 2^16 parts nested in one another.
func TestDeepTrees(t *testing.T) {
	for _, op := range []string{"neg", "when", "call", "odd"} {
		e := syn.Expr{Op: "var", Name: "z", At: 9}
		for range 1<<16 - 1 {
			e = syn.Expr{Op: op, Name: map[string]string{"when": "y", "call": "id"}[op], Kids: []syn.Expr{e}}
		}
		id := syn.Node{Name: "id", In: []syn.Var{{Name: "x"}}, Out: []syn.Var{{Name: "y"}}, Eqs: []syn.Eq{{Name: "y"}}}
		n := syn.Node{Name: "f", Out: []syn.Var{{Name: "y"}}, Eqs: []syn.Eq{{Name: "y", E: e}}}
		if f := names.Check([]syn.Node{id, n}); f != (api.Fault{Err: api.ENAME, At: 9}) {
			t.Errorf("R1: Check of a deep %s: %v at %d", op, f.Err, f.At)
		}
		if q, ok := names.Eq(n, "y"); !ok || !syn.Same([]syn.Node{{Eqs: []syn.Eq{q}}}, []syn.Node{{Eqs: n.Eqs}}) {
			t.Errorf("R1: Eq of a deep %s: %v", op, ok)
		}
	}
}

// R1: a program of many nodes, and a node of many names, come to an end soon.
func TestWideTrees(t *testing.T) {
	const count = 100000
	var l []syn.Node
	one := syn.Node{Name: "all"}
	for k := range count {
		name := "v" + strconv.Itoa(k)
		ahead := "v" + strconv.Itoa(max(k-1, 0))
		v, q := syn.Var{Name: name, On: ahead, At: k}, syn.Eq{Name: name, E: syn.Expr{Op: "var", Name: ahead}}
		if k == 0 {
			v.On, one.Out = "", []syn.Var{v}
		} else {
			one.Locals = append(one.Locals, v)
		}
		one.Eqs = append(one.Eqs, q)
		call := syn.Expr{Op: "call", Name: ahead}
		if k == 0 {
			call = syn.Expr{Op: "int"}
		}
		l = append(l, syn.Node{Name: name, Out: []syn.Var{{Name: "y"}}, Eqs: []syn.Eq{{Name: "y", E: call}}})
	}
	l = append(l, one)
	if f := names.Check(l); f != (api.Fault{}) {
		t.Errorf("R1: Check of many: %v at %d", f.Err, f.At)
	}
	l[count].Eqs = one.Eqs[:count-1]
	if f := names.Check(l); f != (api.Fault{Err: api.ENAME, At: count - 1}) {
		t.Errorf("P6.1: Check of many, the last without an equation: %v at %d", f.Err, f.At)
	}
}

// P6.1, R1: any program that syn reads.
func FuzzCheck(f *testing.F) {
	for _, text := range []string{
		"node f() returns (y: int); let y = z; tel", found, many,
		"node f(a: bool) returns (y: int); var b: int when a; let y = merge a b (g() when not a); b = f(1, 2) -> pre b; tel node g() returns (y: int); let tel",
	} {
		f.Add(text)
	}
	f.Fuzz(func(t *testing.T, text string) {
		if l, fault := syn.Parse(text); fault.Err == api.OK {
			checkSlow(t, l)
		}
	})
}
