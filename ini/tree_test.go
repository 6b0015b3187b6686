package ini_test

import (
	"fmt"
	"math/rand"
	"slices"
	"strconv"
	"strings"
	"testing"

	"escapement/api"
	"escapement/clk"
	"escapement/ini"
	"escapement/syn"
)

// operators are the Ops between two, but -> and fby.
var operators = []string{"+", "-", "*", "/", "mod", "=", "<>", "<", "<=", ">", ">=", "and", "or", "xor"}

// slowLate grows the late names, equation by equation, till nothing is added.
func slowLate(n syn.Node) map[string]bool {
	late := map[string]bool{}
	for grown := true; grown; {
		grown = false
		for _, q := range n.Eqs {
			if !late[q.Name] && slowExpr(late, q.E) {
				late[q.Name], grown = true, true
			}
		}
	}
	return late
}

// slowExpr tells whether an expression is late, if those names are.
func slowExpr(late map[string]bool, e syn.Expr) bool {
	switch {
	case e.Op == "pre":
		return true
	case e.Op == "var":
		return late[e.Name]
	case e.Op == "not" || e.Op == "neg" || e.Op == "if" || e.Op == "when" || slices.Contains(operators, e.Op):
		return slowSome(late, e.Kids)
	}
	return false
}

func slowSome(late map[string]bool, l []syn.Expr) bool {
	return slices.ContainsFunc(l, func(e syn.Expr) bool { return slowExpr(late, e) })
}

// slowPart tells whether a part has a fault of its own.
func slowPart(late map[string]bool, e syn.Expr) bool {
	switch e.Op {
	case "pre":
		return slowExpr(late, e.Kids[0])
	case "->":
		return slowExpr(late, e.Kids[0])
	case "fby":
		return slowExpr(late, e.Kids[0]) || slowExpr(late, e.Kids[1])
	case "call":
		return slowSome(late, e.Kids)
	case "when":
		return late[e.Name]
	case "merge":
		return late[e.Name] || slowExpr(late, e.Kids[0]) || slowExpr(late, e.Kids[1])
	}
	return false
}

// slowWanted tells why a name may not be late: with one of these words.
func slowWanted(n syn.Node, name string) string {
	for _, v := range n.Out {
		if v.Name == name {
			return "output"
		}
	}
	for _, v := range n.Locals {
		if v.On == name {
			return "On"
		}
	}
	return ""
}

// parts are an expression's kids and theirs, and then itself.
func parts(e syn.Expr) []syn.Expr {
	var l []syn.Expr
	for _, k := range e.Kids {
		l = append(l, parts(k)...)
	}
	return append(l, e)
}

// slowCheck tells the first fault, and what it is of: the Op of a part, or one of these words.
func slowCheck(l []syn.Node) (api.Fault, string) {
	for _, n := range l {
		late := slowLate(n)
		for _, q := range n.Eqs {
			for _, e := range parts(q.E) {
				if slowPart(late, e) {
					return api.Fault{Err: api.EINIT, At: e.At}, e.Op
				}
			}
			if w := slowWanted(n, q.Name); w != "" && late[q.Name] {
				return api.Fault{Err: api.EINIT, At: q.At}, w
			}
		}
	}
	return api.Fault{}, "none"
}

// maker makes programs at random that no layer ahead has a fault of.
type maker struct {
	r    *rand.Rand
	at   int
	pres int // of ten parts that could be a pre or a ->, how many are a pre
}

// place tells a place where nothing else stands; later in the program isn't further on in the text.
func (m *maker) place() int {
	m.at += 1 + m.r.Intn(3)
	if m.r.Intn(2) == 0 {
		return -m.at
	}
	return m.at
}

func pick[T any](m *maker, l []T) T { return l[m.r.Intn(len(l))] }

// vars declares so many names that stand nowhere else.
func (m *maker) vars(n int) []syn.Var {
	var l []syn.Var
	for range n {
		at := m.place()
		l = append(l, syn.Var{Name: "v" + strconv.Itoa(m.at), Kind: api.Kind(1 + m.r.Intn(2)), At: at})
	}
	return l
}

func declared(n syn.Node) []syn.Var { return slices.Concat(n.In, n.Out, n.Locals) }

// name tells one of that kind on that clock, if there is one.
func (m *maker) name(n syn.Node, k api.Kind, c []clk.Step) (string, bool) {
	of := slices.DeleteFunc(declared(n), func(v syn.Var) bool { return v.Kind != k || !slices.Equal(clk.Of(n, v.Name), c) })
	if len(of) == 0 {
		return "", false
	}
	return pick(m, of).Name, true
}

// alike are the Ops with two kids, by the kinds of these and of themselves.
var alike = map[[2]api.Kind][]string{
	{api.Int, api.Int}: {"+", "-", "*", "/", "mod"}, {api.Int, api.Bool}: {"=", "<>", "<", "<=", ">", ">="}, {api.Bool, api.Bool}: {"and", "or", "xor", "=", "<>"},
}

// expr makes an expression of that kind on that clock, or on any.
func (m *maker) expr(l []syn.Node, n syn.Node, k api.Kind, c []clk.Step, depth int) syn.Expr {
	e := syn.Expr{At: m.place()}
	kid := func(k api.Kind, c []clk.Step) { e.Kids = append(e.Kids, m.expr(l, n, k, c, depth-1)) }
	sort := m.r.Intn(11)
	if depth <= 0 {
		sort = m.r.Intn(2)
	}
	by, isBy := m.name(n, api.Bool, c)
	switch {
	case sort <= 1:
		if name, ok := m.name(n, k, c); ok && m.r.Intn(6) > 0 {
			e.Op, e.Name = "var", name
			return e
		}
	case sort == 2:
		e.Op = map[api.Kind]string{api.Bool: "not", api.Int: "neg"}[k]
		kid(k, c)
		return e
	case sort <= 4 && m.r.Intn(10) < m.pres:
		e.Op = "pre"
		kid(k, c)
		return e
	case sort <= 4:
		e.Op = pick(m, []string{"->", "->", "fby"})
		kid(k, c)
		kid(k, c)
		return e
	case sort == 5:
		of := pick(m, []api.Kind{k, api.Int})
		e.Op = pick(m, alike[[2]api.Kind{of, k}])
		kid(of, c)
		kid(of, c)
		return e
	case sort == 6:
		e.Op = "if"
		kid(api.Bool, c)
		kid(k, c)
		kid(k, c)
		return e
	case sort == 7 && isBy:
		e.Op, e.Name = "merge", by
		kid(k, append(slices.Clone(c), clk.Step{Name: by}))
		kid(k, append(slices.Clone(c), clk.Step{Name: by, Not: true}))
		return e
	case sort <= 9 && len(c) > 0:
		last := c[len(c)-1]
		e.Op, e.Name = "when", last.Name
		if !last.Not {
			e.N = 1
		}
		kid(k, c[:len(c)-1])
		return e
	case sort >= 9:
		of := slices.DeleteFunc(slices.Clone(l), func(n syn.Node) bool { return len(n.Out) != 1 || n.Out[0].Kind != k })
		if len(of) > 0 {
			called := pick(m, of)
			e.Op, e.Name = "call", called.Name
			for _, v := range called.In {
				kid(v.Kind, c)
			}
			return e
		}
	}
	e.Op, e.N = map[api.Kind]string{api.Bool: "bool", api.Int: "int"}[k], m.r.Int63n(2)
	return e
}

// node makes one, behind those.
func (m *maker) node(l []syn.Node) syn.Node {
	n := syn.Node{Name: "f" + strconv.Itoa(len(l)), At: m.place(), In: m.vars(m.r.Intn(4)), Out: m.vars(1 + m.r.Intn(3)/2), Locals: m.vars(m.r.Intn(7))}
	for k := range n.Locals {
		bools := slices.DeleteFunc(declared(n)[:len(n.In)+len(n.Out)+k], func(v syn.Var) bool { return v.Kind != api.Bool })
		if len(bools) > 0 && m.r.Intn(2) > 0 {
			n.Locals[k].On, n.Locals[k].Not = pick(m, bools).Name, m.r.Intn(2) == 0
		}
	}
	for _, k := range m.r.Perm(len(n.Out) + len(n.Locals)) {
		v := declared(n)[len(n.In)+k]
		n.Eqs = append(n.Eqs, syn.Eq{Name: v.Name, E: m.expr(l, n, v.Kind, clk.Of(n, v.Name), 1+m.r.Intn(4)), At: m.place()})
	}
	return n
}

func (m *maker) program() []syn.Node {
	m.pres = pick(m, []int{1, 4, 8})
	var l []syn.Node
	for range 1 + m.r.Intn(3) {
		l = append(l, m.node(l))
	}
	return l
}

// checkSlow holds Check against the chapter's words, gone through slowly, and tells what the fault is of.
func checkSlow(t *testing.T, l []syn.Node) string {
	t.Helper()
	want, of := slowCheck(l)
	if f := ini.Check(l); f != want {
		t.Errorf("P9.2: Check of\n%s(%+v): %v at %d, want %v at %d", syn.Show(l), l, f.Err, f.At, want.Err, want.At)
	}
	return of
}

// checkAll holds Late of each node and Expr of each part, and tells how many names are late.
func checkAll(t *testing.T, l []syn.Node) int {
	t.Helper()
	count := 0
	for _, n := range l {
		late := slowLate(n)
		var want []string
		for _, v := range declared(n) {
			if late[v.Name] {
				want = append(want, v.Name)
			}
		}
		if got := ini.Late(n); !slices.Equal(got, want) {
			t.Errorf("P9.1: Late of\n%s: %q, want %q", syn.Show([]syn.Node{n}), got, want)
		}
		for _, q := range n.Eqs {
			for _, e := range parts(q.E) {
				if got, want := ini.Expr(n, e), slowExpr(late, e); got != want {
					t.Errorf("P9.1: Expr(%s) in\n%s: %v", syn.Text(e), syn.Show([]syn.Node{n}), got)
				}
			}
		}
		count += len(want)
	}
	return count
}

// P9.1, P9.2, R4, R5: programs at random.
func TestPrograms(t *testing.T) {
	if testing.Short() {
		t.Skip("it takes a few seconds")
	}
	m := &maker{r: rand.New(rand.NewSource(9))}
	seen := map[string]int{}
	for range 7000 {
		if t.Failed() {
			return
		}
		l := m.program()
		if !isFit(l) {
			t.Errorf("P9.2: a layer ahead has a fault of what was made: %+v", l)
		}
		was := fmt.Sprintf("%+v", l)
		of := checkSlow(t, l)
		if checkAll(t, l) > 0 && of == "none" {
			of = "none, and late names"
		}
		seen[of]++
		if checkSlow(t, l); fmt.Sprintf("%+v", l) != was {
			t.Errorf("R4: what was handed in was changed: %+v, and was %s", l, was)
		}
	}
	for _, of := range []string{"none", "none, and late names", "output", "On", "pre", "->", "fby", "when", "merge", "call"} {
		if seen[of] < 50 {
			t.Errorf("of all faults, those of %s were made %d times", of, seen[of])
		}
	}
}

// roomy is a program whose lists all have spare room, with something in it.
func roomy(l []syn.Node) []syn.Node {
	var expr func(e syn.Expr) syn.Expr
	expr = func(e syn.Expr) syn.Expr {
		var kids []syn.Expr
		for _, k := range e.Kids {
			kids = append(kids, expr(k))
		}
		e.Kids = append(kids, syn.Expr{Op: "spare"}, syn.Expr{Op: "spare"})[:len(kids)]
		return e
	}
	vars := func(l []syn.Var) []syn.Var {
		return append(slices.Clone(l), syn.Var{Name: "spare"}, syn.Var{Name: "spare"})[:len(l)]
	}
	var all []syn.Node
	for _, n := range l {
		n.In, n.Out, n.Locals = vars(n.In), vars(n.Out), vars(n.Locals)
		n.Eqs = append(slices.Clone(n.Eqs), syn.Eq{Name: "spare"}, syn.Eq{Name: "spare"})[:len(n.Eqs)]
		for i := range n.Eqs {
			n.Eqs[i].E = expr(n.Eqs[i].E)
		}
		all = append(all, n)
	}
	return append(all, syn.Node{Name: "spare"}, syn.Node{Name: "spare"})[:len(l)]
}

// dumpRoom tells all of a program, spare room too.
func dumpRoom(l []syn.Node) string {
	var s strings.Builder
	var expr func(e syn.Expr)
	expr = func(e syn.Expr) {
		fmt.Fprintf(&s, "(%s %s %d %d", e.Op, e.Name, e.N, e.At)
		for _, k := range e.Kids[:cap(e.Kids)] {
			expr(k)
		}
		s.WriteString(")")
	}
	for _, n := range l[:cap(l)] {
		fmt.Fprintf(&s, "%s %d %v %v %v\n", n.Name, n.At, n.In[:cap(n.In)], n.Out[:cap(n.Out)], n.Locals[:cap(n.Locals)])
		for _, q := range n.Eqs[:cap(n.Eqs)] {
			fmt.Fprintf(&s, "%s %d ", q.Name, q.At)
			expr(q.E)
		}
	}
	return s.String()
}

// R4: no call changes what is handed in, spare room too; a program that has it answers as one that hasn't.
func TestCallsChangeNothing(t *testing.T) {
	for _, e := range []string{"merge c (merge b 1 2 when c) (v) + l", "g(x, 0 -> n + m)", "pre (if k then l else 1)"} {
		bare := parse(t, "R4", inNode(e))
		l := roomy(bare)
		was := dumpRoom(l)
		if ini.Check(l) != ini.Check(bare) {
			t.Errorf("R4: Check with spare room: %v, and without: %v", ini.Check(l), ini.Check(bare))
		}
		checkAll(t, l)
		if dumpRoom(l) != was {
			t.Errorf("R4: what was handed in was changed: %s, and was %s", dumpRoom(l), was)
		}
	}
}

// R4: the late names that were told may be written to, spare room too, without changing what is told later.
func TestLateNamesAreNew(t *testing.T) {
	n := program(t, "R4", "x")
	for range 3 {
		a, b := ini.Late(n), ini.Late(n)
		for _, l := range [][]string{a, b} {
			if !slices.Equal(l, late) {
				t.Errorf("R4: Late: %q, want %q", l, late)
			}
		}
		for k := range a[:cap(a)] {
			a[:cap(a)][k] = "x"
		}
		if !slices.Equal(b, late) {
			t.Errorf("R4: Late is changed by what was told ahead: %q", b)
		}
		clear(b[:cap(b)])
	}
}

// R4: nil and an empty list are one.
func TestEmptyLists(t *testing.T) {
	y := syn.Var{Name: "y", Kind: api.Int}
	for _, none := range [][]syn.Expr{nil, {}} {
		n := syn.Node{Name: "f", In: []syn.Var{}, Out: []syn.Var{y}, Locals: []syn.Var{}, Eqs: []syn.Eq{{Name: "y", E: syn.Expr{Op: "int", Kids: none}}}}
		m := syn.Node{Name: "g", Out: []syn.Var{y}, Eqs: []syn.Eq{{Name: "y", E: syn.Expr{Op: "pre", Kids: []syn.Expr{{Op: "call", Name: "f", Kids: none}}}, At: 7}}}
		if f := ini.Check([]syn.Node{n, m}); f != (api.Fault{Err: api.EINIT, At: 7}) {
			t.Errorf("R4: Check with empty lists: %v at %d", f.Err, f.At)
		}
		holdLate(t, n)
		holdLate(t, m, "y")
	}
	holdLate(t, syn.Node{In: []syn.Var{}, Out: []syn.Var{}, Locals: []syn.Var{}, Eqs: []syn.Eq{}})
}

// R1: no call falls at parts that lack kids, have too many, or are of no Op.
func TestOddParts(t *testing.T) {
	l := syn.Expr{Op: "var", Name: "l"}
	for _, op := range slices.Concat(operators, []string{"", "what", "int", "bool", "var", "call", "not", "neg", "pre", "->", "fby", "when", "if", "merge"}) {
		for count := range 5 {
			e := syn.Expr{Op: op, Name: "y", Kids: slices.Repeat([]syn.Expr{l}, count), At: 3}
			n := syn.Node{Out: []syn.Var{{Name: "y"}}, Locals: []syn.Var{{Name: "s"}, {Name: "l"}}, Eqs: []syn.Eq{{Name: "s", E: e}, {Name: "l", E: lateExpr}}}
			bad := count > 0 && slices.Contains([]string{"pre", "->", "fby", "call", "merge"}, op)
			want := api.Fault{}
			if bad {
				want = api.Fault{Err: api.EINIT, At: 3}
			}
			if f := ini.Check([]syn.Node{n}); f != want {
				t.Errorf("R1: Check of a %q with %d kids: %v at %d, want %v", op, count, f.Err, f.At, want.Err)
			}
			if got, want := ini.Expr(n, e), op == "pre" || op != "var" && slowExpr(map[string]bool{"l": true}, e); got != want {
				t.Errorf("R1: Expr of a %q with %d kids: %v", op, count, got)
			}
		}
	}
}

// deep nests so many parts of one Op in one another, round that one, which is the last kid.
func deep(op string, count int, e syn.Expr) syn.Expr {
	ahead := map[string][]syn.Expr{"+": {{Op: "int"}}, "->": {{Op: "int"}}, "fby": {{Op: "int"}}, "if": {{Op: "bool"}, {Op: "int"}}, "merge": {{Op: "int"}}}[op]
	for range count {
		e = syn.Expr{Op: op, Name: map[string]string{"call": "id", "when": "c", "merge": "c"}[op], Kids: append(slices.Clone(ahead), e)}
	}
	return e
}

// R1: trees of 2^16 parts nested in one another.
func TestDeepTrees(t *testing.T) {
	const count = 1<<16 - 2
	for _, op := range []string{"neg", "+", "->", "fby", "if", "when", "merge", "call", "pre"} {
		for _, inner := range []syn.Expr{{Op: "int", At: 9}, {Op: "var", Name: "x", At: 9}, {Op: "var", Name: "a", At: 9}, {Op: "fby", Kids: []syn.Expr{{Op: "int"}, {Op: "var", Name: "a"}}, At: 9}} {
			e := deep(op, count, inner)
			n := syn.Node{Name: "f", In: []syn.Var{{Name: "c", Kind: api.Bool}, {Name: "x", Kind: api.Int}}, Out: []syn.Var{{Name: "y", Kind: api.Int}}, Locals: []syn.Var{{Name: "a", Kind: api.Int}}, Eqs: []syn.Eq{{Name: "y", E: e, At: 5}, {Name: "a", E: lateExpr}}}
			passes := slices.Contains([]string{"neg", "+", "if", "when"}, op)
			isLate := op == "pre" || passes && inner.Name == "a"
			if got := ini.Expr(n, e); got != isLate {
				t.Errorf("R1: Expr of a deep %s round %s: %v", op, syn.Text(inner), got)
			}
			want := api.Fault{}
			switch {
			case inner.Op == "fby":
				want = api.Fault{Err: api.EINIT, At: 9}
			case passes && isLate:
				want = api.Fault{Err: api.EINIT, At: 5}
			case op == "pre" || inner.Name == "a" && !passes && op != "->":
				want = api.Fault{Err: api.EINIT, At: 0}
			}
			if f := ini.Check([]syn.Node{n}); f != want {
				t.Errorf("R1: Check of a deep %s round %s: %v at %d, want %v at %d", op, syn.Text(inner), f.Err, f.At, want.Err, want.At)
			}
		}
	}
}

// wide is a node of far more names than a text may declare, as one that was made of many, each the one ahead but for a
// sign; the first one is that.
func wide(count int, first syn.Expr) syn.Node {
	n := syn.Node{Name: "f", Out: []syn.Var{{Name: "y", Kind: api.Int}}}
	for k := range count {
		e := first
		if k > 0 {
			e = syn.Expr{Op: "neg", Kids: []syn.Expr{{Op: "var", Name: "v" + strconv.Itoa(k-1)}}}
		}
		n.Locals = append(n.Locals, syn.Var{Name: "v" + strconv.Itoa(k), Kind: api.Int})
		n.Eqs = append(n.Eqs, syn.Eq{Name: "v" + strconv.Itoa(k), E: e, At: k})
	}
	n.Eqs = append(n.Eqs, syn.Eq{Name: "y", E: syn.Expr{Op: "var", Name: "v" + strconv.Itoa(count-1)}, At: -1})
	return n
}

// R1: long rows of names, in the order of their equations or against it, or coming back to themselves, come to an end soon.
func TestWideNodes(t *testing.T) {
	const count = 100000
	for first, isLate := range map[*syn.Expr]bool{&lateExpr: true, {Op: "int"}: false, {Op: "var", Name: "y"}: false, {Op: "+", Kids: []syn.Expr{{Op: "var", Name: "y"}, lateExpr}}: true} {
		n := wide(count, *first)
		for range 2 {
			want, fault := 0, api.Fault{}
			if isLate {
				want, fault = count+1, api.Fault{Err: api.EINIT, At: -1}
			}
			l := ini.Late(n)
			if len(l) != want || isLate && (l[0] != "y" || l[1] != "v0" || l[count] != n.Locals[count-1].Name) {
				t.Errorf("P9.1: Late of a row from %s on: %d names, want %d", syn.Text(*first), len(l), want)
			}
			if f := ini.Check([]syn.Node{n}); f != fault {
				t.Errorf("P9.2: Check of a row from %s on: %v at %d, want %v", syn.Text(*first), f.Err, f.At, fault.Err)
			}
			if got := ini.Expr(n, syn.Expr{Op: "var", Name: "y"}); got != isLate {
				t.Errorf("P9.1: Expr at the end of a row from %s on: %v", syn.Text(*first), got)
			}
			slices.Reverse(n.Eqs)
		}
	}
}

// P9.1, P9.2, R1: any program that syn reads and the layers behind it have no fault of.
func FuzzCheck(f *testing.F) {
	for _, text := range []string{
		"node f(x: int) returns (y: int); let y = 0 -> pre x; tel",
		"node f(c: bool) returns (y: int); var a: bool; b: int when not a; let y = merge a 1 b; b = pre (2 when not a); a = true fby c; tel",
		inNode("if k() then g(x, merge c (p) (q)) else 1 fby y"),
		inNode("0 -> pre (x -> l) + (if pre c then m else s)"),
	} {
		f.Add(text)
	}
	f.Fuzz(func(t *testing.T, text string) {
		if l, fault := syn.Parse(text); fault.Err == api.OK && isFit(l) {
			checkSlow(t, l)
			checkAll(t, l)
		}
	})
}
