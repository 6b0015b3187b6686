package clk_test

import (
	"fmt"
	"math/rand"
	"slices"
	"strconv"
	"strings"
	"testing"

	"escapement/api"
	"escapement/clk"
	"escapement/names"
	"escapement/syn"
	"escapement/typ"
)

// slowOf tells a declared name's row, step by step.
func slowOf(n syn.Node, name string) string {
	v, _ := names.Find(n, name)
	if v.On == "" {
		return ""
	}
	return slowOf(n, v.On) + sign(v.Not) + v.On
}

func sign(not bool) string { return map[bool]string{false: "+", true: "-"}[not] }

// slowExpr tells an expression's row, any or fault, each part by itself.
func slowExpr(n syn.Node, e syn.Expr) string {
	var kids []string
	for _, k := range e.Kids {
		c := slowExpr(n, k)
		if c == "fault" {
			return c
		}
		kids = append(kids, c)
	}
	fits := func(kid int, want string) bool { return kids[kid] == "any" || kids[kid] == want }
	own := slowOf(n, e.Name)
	switch e.Op {
	case "var":
		return own
	case "when":
		if !fits(0, own) {
			return "fault"
		}
		return own + sign(e.N == 0) + e.Name
	case "merge":
		if !fits(0, own+"+"+e.Name) || !fits(1, own+"-"+e.Name) {
			return "fault"
		}
		return own
	}
	is := "any"
	for _, k := range kids {
		if is != "any" && k != "any" && k != is {
			return "fault"
		}
		if is == "any" {
			is = k
		}
	}
	return is
}

// parts are an expression's kids and theirs, and then itself.
func parts(e syn.Expr) []syn.Expr {
	var l []syn.Expr
	for _, k := range e.Kids {
		l = append(l, parts(k)...)
	}
	return append(l, e)
}

// slowCheck tells the first fault, and what it is of: the Op of a part, or one of these words.
func slowCheck(l []syn.Node) (api.Fault, string) {
	for _, n := range l {
		for _, q := range n.Eqs {
			for _, e := range parts(q.E) {
				if slowExpr(n, e) == "fault" {
					return api.Fault{Err: api.ECLOCK, At: e.At}, e.Op
				}
			}
			if c := slowExpr(n, q.E); c != "any" && c != slowOf(n, q.Name) {
				return api.Fault{Err: api.ECLOCK, At: q.At}, "equation"
			}
		}
	}
	return api.Fault{}, "none"
}

// maker makes programs at random.
type maker struct {
	r  *rand.Rand
	at int
}

// place tells a place where nothing else stands; later in the program isn't further on in the text.
func (m *maker) place() int {
	m.at += 1 + m.r.Intn(3)
	if m.r.Intn(2) == 0 {
		return -m.at
	}
	return m.at
}

func pick[T any](m *maker, l []T) T { return l[m.r.Intn(len(l))] }

// vars declares so many names that stand nowhere else.
func (m *maker) vars(n int) []syn.Var {
	var l []syn.Var
	for range n {
		at := m.place()
		l = append(l, syn.Var{Name: "v" + strconv.Itoa(m.at), Kind: api.Kind(1 + m.r.Intn(2)), At: at})
	}
	return l
}

func declared(n syn.Node) []syn.Var { return slices.Concat(n.In, n.Out, n.Locals) }

// name tells one of that kind on that clock, if there is one.
func (m *maker) name(n syn.Node, k api.Kind, c string) (string, bool) {
	of := slices.DeleteFunc(declared(n), func(v syn.Var) bool { return v.Kind != k || slowOf(n, v.Name) != c })
	if len(of) == 0 {
		return "", false
	}
	return pick(m, of).Name, true
}

// stepOf tells the clock ahead of one, and its last step.
func stepOf(c string) (ahead, name string, n int64, ok bool) {
	i := strings.LastIndexAny(c, "+-")
	if i < 0 {
		return "", "", 0, false
	}
	return c[:i], c[i+1:], map[byte]int64{'+': 1, '-': 0}[c[i]], true
}

// alike are the Ops with two kids, by the kinds of these and of themselves.
var alike = map[[2]api.Kind][]string{
	{api.Int, api.Int}: {"+", "-", "*", "/", "mod", "->", "fby"}, {api.Int, api.Bool}: {"=", "<>", "<", "<=", ">", ">="}, {api.Bool, api.Bool}: {"and", "or", "xor", "=", "->", "fby"},
}

// expr makes an expression of that kind on that clock, or on any.
func (m *maker) expr(l []syn.Node, n syn.Node, k api.Kind, c string, depth int) syn.Expr {
	e := syn.Expr{At: m.place()}
	kid := func(k api.Kind, c string) { e.Kids = append(e.Kids, m.expr(l, n, k, c, depth-1)) }
	sort := m.r.Intn(11)
	if depth <= 0 {
		sort = 0
	}
	by, isBy := m.name(n, api.Bool, c)
	ahead, last, truth, hangs := stepOf(c)
	switch {
	case sort <= 1:
		if name, ok := m.name(n, k, c); ok && m.r.Intn(6) > 0 {
			e.Op, e.Name = "var", name
			return e
		}
	case sort == 2:
		e.Op = map[api.Kind]string{api.Bool: "not", api.Int: "neg"}[k]
		if m.r.Intn(2) == 0 {
			e.Op = "pre"
		}
		kid(k, c)
		return e
	case sort == 3 || sort == 9:
		of := pick(m, []api.Kind{k, api.Int})
		e.Op = pick(m, alike[[2]api.Kind{of, k}])
		kid(of, c)
		kid(of, c)
		return e
	case sort == 4:
		e.Op = "if"
		kid(api.Bool, c)
		kid(k, c)
		kid(k, c)
		return e
	case sort <= 6 && isBy:
		e.Op, e.Name = "merge", by
		kid(k, c+"+"+by)
		kid(k, c+"-"+by)
		return e
	case sort <= 7 && hangs:
		e.Op, e.Name, e.N = "when", last, truth
		kid(k, ahead)
		return e
	case sort == 8 || sort == 10:
		of := slices.DeleteFunc(slices.Clone(l), func(n syn.Node) bool { return len(n.Out) != 1 || n.Out[0].Kind != k })
		if len(of) > 0 {
			called := pick(m, of)
			e.Op, e.Name = "call", called.Name
			for _, v := range called.In {
				kid(v.Kind, c)
			}
			return e
		}
	}
	e.Op, e.N = map[api.Kind]string{api.Bool: "bool", api.Int: "int"}[k], m.r.Int63n(2)
	return e
}

// node makes one without a fault, behind those.
func (m *maker) node(l []syn.Node) syn.Node {
	n := syn.Node{Name: "f" + strconv.Itoa(len(l)), At: m.place(), In: m.vars(m.r.Intn(4)), Out: m.vars(1 + m.r.Intn(3)/2), Locals: m.vars(m.r.Intn(6))}
	for k := range n.Locals {
		bools := slices.DeleteFunc(declared(n)[:len(n.In)+len(n.Out)+k], func(v syn.Var) bool { return v.Kind != api.Bool })
		if len(bools) > 0 && m.r.Intn(4) > 0 {
			n.Locals[k].On, n.Locals[k].Not = pick(m, bools).Name, m.r.Intn(2) == 0
		}
	}
	for _, k := range m.r.Perm(len(n.Out) + len(n.Locals)) {
		v := declared(n)[len(n.In)+k]
		n.Eqs = append(n.Eqs, syn.Eq{Name: v.Name, E: m.expr(l, n, v.Kind, slowOf(n, v.Name), 4), At: m.place()})
	}
	return n
}

func (m *maker) program() []syn.Node {
	var l []syn.Node
	for range 1 + m.r.Intn(3) {
		l = append(l, m.node(l))
	}
	return l
}

// spoil changes one thing, which may make a fault: of clocks, or of an earlier layer.
func (m *maker) spoil(l []syn.Node) {
	i := m.r.Intn(len(l))
	n := &l[i]
	q := &n.Eqs[m.r.Intn(len(n.Eqs))]
	switch sort := m.r.Intn(8); {
	case sort == 0 && len(n.Locals) > 0:
		v := &n.Locals[m.r.Intn(len(n.Locals))]
		v.Not = !v.Not
	case sort == 1 && len(n.Locals) > 0:
		k := m.r.Intn(len(n.Locals))
		n.Locals[k].On = pick(m, declared(*n)[:len(n.In)+len(n.Out)+k]).Name
	case sort == 2:
		p := &n.Eqs[m.r.Intn(len(n.Eqs))]
		q.E, p.E = p.E, q.E
	case sort == 3:
		*m.part(&q.E) = m.copied(pick(m, parts(pick(m, n.Eqs).E)))
	case sort == 4:
		m.spoilStep(m.part(&q.E), *n)
	default:
		m.spoilPart(m.part(&q.E), l, i)
	}
}

// part is some part of an expression.
func (m *maker) part(e *syn.Expr) *syn.Expr {
	for len(e.Kids) > 0 && m.r.Intn(3) > 0 {
		e = &e.Kids[m.r.Intn(len(e.Kids))]
	}
	return e
}

// copied is an expression that stands elsewhere.
func (m *maker) copied(e syn.Expr) syn.Expr {
	var kids []syn.Expr
	for _, k := range e.Kids {
		kids = append(kids, m.copied(k))
	}
	e.At, e.Kids = m.place(), kids
	return e
}

// spoilStep gives a part another step, or lets its kids change places.
func (m *maker) spoilStep(e *syn.Expr, n syn.Node) {
	if len(e.Kids) > 1 {
		e.Kids[0], e.Kids[1] = e.Kids[1], e.Kids[0]
	}
	if e.Op == "when" {
		e.N = 1 - e.N
	}
	if (e.Op == "when" || e.Op == "merge") && m.r.Intn(2) == 0 {
		e.Name = pick(m, declared(n)).Name
	}
}

// spoilPart lets a name of the same kind, or a copy of a part of it, be in a part's place.
func (m *maker) spoilPart(e *syn.Expr, l []syn.Node, node int) {
	k := typ.Of(l, node, *e)
	var of []syn.Expr
	for _, v := range declared(l[node]) {
		if v.Kind == k {
			of = append(of, syn.Expr{Op: "var", Name: v.Name, At: m.place()})
		}
	}
	for _, p := range parts(pick(m, l[node].Eqs).E) {
		if typ.Of(l, node, p) == k {
			of = append(of, m.copied(p))
		}
	}
	if len(of) > 0 {
		*e = pick(m, of)
	}
}

// checkSlow holds Check against the chapter's words, gone through slowly, and tells what the fault is of.
func checkSlow(t *testing.T, l []syn.Node) string {
	t.Helper()
	want, of := slowCheck(l)
	if f := clk.Check(l); f != want {
		t.Errorf("P8.2: Check of\n%s(%+v): %v at %d, want %v at %d", syn.Show(l), l, f.Err, f.At, want.Err, want.At)
	}
	return of
}

// checkAll holds Of of each name and Expr of each part.
func checkAll(t *testing.T, l []syn.Node) {
	t.Helper()
	for _, n := range l {
		for _, v := range declared(n) {
			if c := clk.Of(n, v.Name); row(c) != slowOf(n, v.Name) {
				t.Errorf("P8.2: Of(%s) in\n%s: %s, want %s", v.Name, syn.Show([]syn.Node{n}), row(c), slowOf(n, v.Name))
			}
		}
		for _, q := range n.Eqs {
			for _, e := range parts(q.E) {
				if got, want := answer(n, e), slowExpr(n, e); got != want {
					t.Errorf("P8.1: Expr(%s) in\n%s: %s, want %s", syn.Text(e), syn.Show([]syn.Node{n}), got, want)
				}
			}
		}
	}
}

// operators are the Ops between two, but -> and fby.
var operators = []string{"+", "-", "*", "/", "mod", "=", "<>", "<", "<=", ">", ">=", "and", "or", "xor"}

// isTyped tells whether the layers ahead have no fault of a program.
func isTyped(l []syn.Node) bool {
	return names.Check(l).Err == api.OK && typ.Check(l).Err == api.OK
}

// P8.1, P8.2, R4, R5: programs at random, of which nothing or some things are spoilt.
func TestPrograms(t *testing.T) {
	if testing.Short() {
		t.Skip("it takes a few seconds")
	}
	m := &maker{r: rand.New(rand.NewSource(8))}
	seen := map[string]int{}
	for range 8000 {
		if t.Failed() {
			return
		}
		l := m.program()
		if checkSlow(t, l) != "none" || !isTyped(l) {
			t.Errorf("P8.2: a fault of what was made without one: %+v", l)
		}
		for range m.r.Intn(3) {
			m.spoil(l)
		}
		if !isTyped(l) {
			continue
		}
		was := fmt.Sprintf("%+v", l)
		of := checkSlow(t, l)
		if slices.Contains(operators, of) {
			of = "operator"
		}
		seen[of]++
		checkAll(t, l)
		if checkSlow(t, l); fmt.Sprintf("%+v", l) != was {
			t.Errorf("R4: what was handed in was changed: %+v, and was %s", l, was)
		}
	}
	for _, of := range []string{"none", "equation", "call", "operator", "->", "fby", "when", "if", "merge"} {
		if seen[of] < 10 {
			t.Errorf("of all faults, those of %s were made %d times", of, seen[of])
		}
	}
}

// roomy is a program whose lists all have spare room, with something in it.
func roomy(l []syn.Node) []syn.Node {
	var expr func(e syn.Expr) syn.Expr
	expr = func(e syn.Expr) syn.Expr {
		var kids []syn.Expr
		for _, k := range e.Kids {
			kids = append(kids, expr(k))
		}
		e.Kids = append(kids, syn.Expr{Op: "spare"}, syn.Expr{Op: "spare"})[:len(kids)]
		return e
	}
	vars := func(l []syn.Var) []syn.Var {
		return append(slices.Clone(l), syn.Var{Name: "spare"}, syn.Var{Name: "spare"})[:len(l)]
	}
	var all []syn.Node
	for _, n := range l {
		n.In, n.Out, n.Locals = vars(n.In), vars(n.Out), vars(n.Locals)
		n.Eqs = append(slices.Clone(n.Eqs), syn.Eq{Name: "spare"}, syn.Eq{Name: "spare"})[:len(n.Eqs)]
		for i := range n.Eqs {
			n.Eqs[i].E = expr(n.Eqs[i].E)
		}
		all = append(all, n)
	}
	return append(all, syn.Node{Name: "spare"}, syn.Node{Name: "spare"})[:len(l)]
}

// dumpRoom tells all of a program, spare room too.
func dumpRoom(l []syn.Node) string {
	var s strings.Builder
	var expr func(e syn.Expr)
	expr = func(e syn.Expr) {
		fmt.Fprintf(&s, "(%s %s %d %d", e.Op, e.Name, e.N, e.At)
		for _, k := range e.Kids[:cap(e.Kids)] {
			expr(k)
		}
		s.WriteString(")")
	}
	for _, n := range l[:cap(l)] {
		fmt.Fprintf(&s, "%s %d %v %v %v\n", n.Name, n.At, n.In[:cap(n.In)], n.Out[:cap(n.Out)], n.Locals[:cap(n.Locals)])
		for _, q := range n.Eqs[:cap(n.Eqs)] {
			fmt.Fprintf(&s, "%s %d ", q.Name, q.At)
			expr(q.E)
		}
	}
	return s.String()
}

// R4: no call changes what is handed in, spare room too; a program that has it answers as one that hasn't.
func TestCallsChangeNothing(t *testing.T) {
	for _, e := range []string{"merge c (merge e (r) (s) + p) 1", "x + g(x, p) - y"} {
		bare := parse(t, "R4", inNode(e))
		l := roomy(bare)
		was := dumpRoom(l)
		if clk.Check(l) != clk.Check(bare) {
			t.Errorf("R4: Check with spare room: %v, and without: %v", clk.Check(l), clk.Check(bare))
		}
		checkAll(t, l)
		if dumpRoom(l) != was {
			t.Errorf("R4: what was handed in was changed: %s, and was %s", dumpRoom(l), was)
		}
	}
}

// R4: a row that was told may be written to, spare room too, without changing what is told later.
func TestRowsAreNew(t *testing.T) {
	n := program(t, "R4", "x")
	u := syn.Expr{Op: "var", Name: "u"}
	for range 3 {
		c := clk.Of(n, "u")
		d, _, _ := clk.Expr(n, u)
		for _, l := range [][]clk.Step{c, d} {
			if row(l) != clocks["u"] {
				t.Errorf("R4: u's clock: %s, want %s", row(l), clocks["u"])
			}
		}
		for k := range c[:cap(c)] {
			c[:cap(c)][k] = clk.Step{Name: "x", Not: true}
		}
		if row(d) != clocks["u"] {
			t.Errorf("R4: u's clock by Expr is changed by what Of told: %s", row(d))
		}
		clear(d[:cap(d)])
	}
}

// R4: nil and an empty list are one.
func TestEmptyLists(t *testing.T) {
	e := syn.Expr{Op: "int", Kids: []syn.Expr{}}
	n := syn.Node{Name: "f", In: []syn.Var{}, Out: []syn.Var{{Name: "y", Kind: api.Int}}, Locals: []syn.Var{}, Eqs: []syn.Eq{{Name: "y", E: e}}}
	call := syn.Expr{Op: "call", Name: "f", Kids: []syn.Expr{}}
	m := syn.Node{Name: "g", Out: []syn.Var{{Name: "y", Kind: api.Int}}, Eqs: []syn.Eq{{Name: "y", E: call}}}
	if f := clk.Check([]syn.Node{n, m}); f != (api.Fault{}) {
		t.Errorf("R4: Check with empty lists: %v at %d", f.Err, f.At)
	}
	if got := answer(n, call); got != "any" {
		t.Errorf("R4: Expr of a call with an empty list: %s", got)
	}
}

// deep nests so many parts of one Op in one another, round that one.
func deep(op string, count int, e syn.Expr) syn.Expr {
	ahead := map[string][]syn.Expr{"->": {{Op: "int"}}, "if": {{Op: "bool"}, {Op: "int"}}}[op]
	for range count {
		if op == "merge" {
			e = syn.Expr{Op: "when", Name: "c", N: 1, Kids: []syn.Expr{e}}
			e = syn.Expr{Op: "merge", Name: "c", Kids: []syn.Expr{e, {Op: "int"}}}
			continue
		}
		e = syn.Expr{Op: op, Name: map[string]string{"call": "id"}[op], Kids: append(slices.Clone(ahead), e)}
	}
	return e
}

// R1: trees of some 2^16 parts nested in one another.
func TestDeepTrees(t *testing.T) {
	const count = 1<<15 - 1
	for _, op := range []string{"neg", "pre", "call", "->", "if", "merge"} {
		for inner, want := range map[string]string{"any": "any", "var": "", "fault": "fault"} {
			e := map[string]syn.Expr{"any": {Op: "int", At: 9}, "var": {Op: "var", Name: "x"}, "fault": {Op: "+", At: 9, Kids: []syn.Expr{{Op: "var", Name: "x"}, {Op: "var", Name: "a"}}}}[inner]
			e = deep(op, count, e)
			if op == "merge" && inner == "any" {
				want = ""
			}
			n := syn.Node{Name: "f", In: []syn.Var{{Name: "c", Kind: api.Bool}, {Name: "x", Kind: api.Int}}, Out: []syn.Var{{Name: "y", Kind: api.Int}}, Locals: []syn.Var{{Name: "a", Kind: api.Int, On: "c"}}, Eqs: []syn.Eq{{Name: "y", E: e}, {Name: "a", E: syn.Expr{Op: "int"}}}}
			if got := answer(n, e); got != want {
				t.Errorf("R1: Expr of a deep %s round %s: %s, want %s", op, inner, got, want)
			}
			fault := api.Fault{}
			if want == "fault" {
				fault = api.Fault{Err: api.ECLOCK, At: 9}
			}
			if f := clk.Check([]syn.Node{n}); f != fault {
				t.Errorf("R1: Check of a deep %s round %s: %v at %d, want %v", op, inner, f.Err, f.At, fault.Err)
			}
		}
	}
}

// R1: a node of far more names than a text may declare, as one that was made of many, each on the one ahead, comes to an
// end soon.
func TestWideNode(t *testing.T) {
	const count = 100000
	n := syn.Node{Name: "f", Out: []syn.Var{{Name: "v0", Kind: api.Bool}}, Eqs: []syn.Eq{{Name: "v0", E: syn.Expr{Op: "bool"}}}}
	for k := 1; k < count; k++ {
		name, ahead := "v"+strconv.Itoa(k), "v"+strconv.Itoa(k-1)
		n.Locals = append(n.Locals, syn.Var{Name: name, Kind: api.Bool, On: ahead, Not: k%2 == 0, At: k})
		e := syn.Expr{Op: "when", Name: ahead, N: int64(k % 2), Kids: []syn.Expr{{Op: "var", Name: ahead}}}
		n.Eqs = append(n.Eqs, syn.Eq{Name: name, E: e, At: -k})
	}
	if f := clk.Check([]syn.Node{n}); f != (api.Fault{}) {
		t.Errorf("R1: Check of many names: %v at %d", f.Err, f.At)
	}
	c, any, ok := clk.Expr(n, n.Eqs[count-1].E)
	if of := clk.Of(n, n.Eqs[count-1].Name); len(of) != count-1 || any || !ok || !slices.Equal(c, of) || of[0] != (clk.Step{Name: "v0"}) || of[1] != (clk.Step{Name: "v1", Not: true}) {
		t.Errorf("P8.2: a row of %d steps, and of %d", len(of), len(c))
	}
	n.Locals[count-2].Not = !n.Locals[count-2].Not
	if f := clk.Check([]syn.Node{n}); f != (api.Fault{Err: api.ECLOCK, At: 1 - count}) {
		t.Errorf("P8.2: Check of many names, the last on another step: %v at %d", f.Err, f.At)
	}
}

// P8.1, P8.2, R1: any program that syn reads and names and typ have no fault of.
func FuzzCheck(f *testing.F) {
	for _, text := range []string{
		"node f(x: int; c: bool) returns (y: int); let y = x + (x when c); tel",
		"node f(x: int; c: bool) returns (y: int); var a: int when not c; let y = merge c (x when c) a; a = 0 -> pre a; tel",
		inNode("if k() then g(x, merge c (p) (q)) else 1 fby y"),
		inNode("(p when e) + r when w"),
	} {
		f.Add(text)
	}
	f.Fuzz(func(t *testing.T, text string) {
		if l, fault := syn.Parse(text); fault.Err == api.OK && isTyped(l) {
			checkSlow(t, l)
			checkAll(t, l)
		}
	})
}
