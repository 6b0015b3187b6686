package cau_test

import (
	"fmt"
	"math/rand"
	"slices"
	"strconv"
	"strings"
	"testing"

	"escapement/api"
	"escapement/cau"
	"escapement/syn"
)

// own are a node's outputs and locals.
func own(n syn.Node) []syn.Var { return slices.Concat(n.Out, n.Locals) }

// slowNames tells whether an expression names somebody at once.
func slowNames(e syn.Expr, name string) bool {
	if e.Op == "pre" {
		return false
	}
	if slices.Contains([]string{"var", "when", "merge"}, e.Op) && e.Name == name {
		return true
	}
	for k, kid := range e.Kids {
		if slowNames(kid, name) && !(e.Op == "fby" && k == 1) {
			return true
		}
	}
	return false
}

// slowOn tells whether a name is somebody's On, or the On of that, and so on.
func slowOn(n syn.Node, v syn.Var, name string) bool {
	for _, w := range n.Locals {
		if w.Name == v.On {
			return w.Name == name || slowOn(n, w, name)
		}
	}
	return v.On != "" && v.On == name
}

// slowLeans asks each output and local.
func slowLeans(n syn.Node, name string) []string {
	var l []string
	for _, w := range own(n) {
		isOn := slices.ContainsFunc(n.Locals, func(v syn.Var) bool { return v.Name == name && slowOn(n, v, w.Name) })
		isNamed := slices.ContainsFunc(n.Eqs, func(q syn.Eq) bool { return q.Name == name && slowNames(q.E, w.Name) })
		if isOn || isNamed {
			l = append(l, w.Name)
		}
	}
	return l
}

// slowOrder looks for the next one from the first on, again and again.
func slowOrder(n syn.Node) ([]string, bool) {
	var l []string
	isFree := func(v syn.Var) bool {
		held := func(name string) bool { return !slices.Contains(l, name) }
		return held(v.Name) && !slices.ContainsFunc(slowLeans(n, v.Name), held)
	}
	vars := own(n)
	for range vars {
		k := slices.IndexFunc(vars, isFree)
		if k < 0 {
			return nil, false
		}
		l = append(l, vars[k].Name)
	}
	return l, true
}

// slowReach is all that a name leans on, by way of others, too.
func slowReach(n syn.Node, name string) []string {
	l := slowLeans(n, name)
	for k := 0; k < len(l); k++ {
		for _, w := range slowLeans(n, l[k]) {
			if !slices.Contains(l, w) {
				l = append(l, w)
			}
		}
	}
	return l
}

// slowCheck tells the first fault, and what was seen on the way to it.
func slowCheck(l []syn.Node) (api.Fault, string) {
	for i, n := range l {
		for k, q := range n.Eqs {
			if !slices.Contains(slowReach(n, q.Name), q.Name) {
				continue
			}
			of := "others"
			switch leans := slowLeans(n, q.Name); {
			case slices.Contains(leans, q.Name):
				of = "itself"
			case slices.ContainsFunc(n.Eqs[:k], func(p syn.Eq) bool { return slices.Contains(slowReach(n, p.Name), q.Name) }):
				of = "others, behind one that leans on it"
			case i > 1:
				of = "others, in a later node"
			}
			return api.Fault{Err: api.ECAUSE, At: q.At}, of
		}
	}
	return api.Fault{}, "none"
}

// spot is where a name may stand: its kind, and its clock as a row of steps, each with a blank ahead.
type spot struct {
	kind  api.Kind
	clock string
}

// maker makes programs at random that no layer ahead has a fault of. It ranks a node's names, so that most often each
// leans on those of lower ranks alone: else nearly all would lean on themselves.
type maker struct {
	r      *rand.Rand
	loose  int // of fifty names, how many are of any rank
	own    int // the rank of the name whose equation is made; above all, where a value of the tick ahead is asked for
	names  map[spot][]string
	bools  []string
	clocks map[string]string
	ranks  map[string]int
}

const anyRank = 1 << 20

func pick[T any](m *maker, l []T) T { return l[m.r.Intn(len(l))] }

func words(k api.Kind) string { return map[api.Kind]string{api.Bool: "bool", api.Int: "int"}[k] }

func (m *maker) kind() api.Kind { return pick(m, []api.Kind{api.Bool, api.Int}) }

// declare declares a name on that clock.
func (m *maker) declare(name string, at spot, rank int) string {
	m.names[at] = append(m.names[at], name)
	if at.kind == api.Bool {
		m.bools = append(m.bools, name)
	}
	m.clocks[name], m.ranks[name] = at.clock, rank
	return name + ": " + words(at.kind)
}

// fit are names that may stand there.
func (m *maker) fit(at spot) []string {
	return slices.DeleteFunc(slices.Clone(m.names[at]), func(name string) bool { return m.ranks[name] >= m.own && m.r.Intn(50) >= m.loose })
}

// part makes an expression.
func (m *maker) part(at spot, depth int) string {
	kid := func(k api.Kind, clock string) string { return m.part(spot{k, clock}, depth-1) }
	two := func(k api.Kind, op string) string {
		return "(" + kid(k, at.clock) + " " + op + " " + kid(k, at.clock) + ")"
	}
	sort := m.r.Intn(10)
	if depth == 0 {
		sort = m.r.Intn(3)
	}
	names, bools := m.fit(at), m.fit(spot{api.Bool, at.clock})
	steps := strings.Fields(at.clock)
	switch {
	case sort <= 1 && len(names) > 0:
		return pick(m, names)
	case sort == 2 && depth > 0:
		return m.later(at, depth)
	case sort == 3:
		return two(at.kind, "->")
	case sort == 4 && at.kind == api.Int:
		return pick(m, []string{two(api.Int, pick(m, []string{"+", "*", "mod"})), "g(" + kid(api.Int, at.clock) + ", " + kid(api.Bool, at.clock) + ")"})
	case sort == 4:
		return pick(m, []string{two(api.Bool, "and"), two(m.kind(), "="), two(api.Int, "<"), "(not " + kid(api.Bool, at.clock) + ")"})
	case sort == 5:
		return "(if " + kid(api.Bool, at.clock) + " then " + kid(at.kind, at.clock) + " else " + kid(at.kind, at.clock) + ")"
	case (sort == 6 || sort == 7) && len(bools) > 0:
		by := pick(m, bools)
		return "(merge " + by + " (" + kid(at.kind, at.clock+" "+by) + ") (" + kid(at.kind, at.clock+" not."+by) + "))"
	case sort >= 6 && len(steps) > 0:
		last := steps[len(steps)-1]
		return "(" + kid(at.kind, strings.TrimSuffix(at.clock, " "+last)) + " when " + strings.ReplaceAll(last, ".", " ") + ")"
	}
	return map[api.Kind]string{api.Bool: "true", api.Int: "1"}[at.kind]
}

// later makes a part that holds a value of the tick ahead.
func (m *maker) later(at spot, depth int) string {
	first, own := m.part(at, depth-1), m.own
	m.own = anyRank
	then := m.part(at, depth-1)
	m.own = own
	return "(" + first + pick(m, []string{" fby ", " -> pre "}) + then + ")"
}

// node makes a node's text: its equations stand in any order.
func (m *maker) node(name string) string {
	m.names, m.bools, m.clocks, m.ranks = map[spot][]string{}, nil, map[string]string{}, map[string]int{}
	m.loose = pick(m, []int{0, 1, 3, 9})
	var ins, outs, locals, all []string
	var spots []spot
	next := func() string { return pick(m, []string{"a", "b", "k", "z"}) + strconv.Itoa(len(m.clocks)) }
	add := func(l *[]string, at spot, rank int, on string) {
		all, spots = append(all, next()), append(spots, at)
		*l = append(*l, m.declare(all[len(all)-1], at, rank)+on)
	}
	for range m.r.Intn(3) {
		ins = append(ins, m.declare(next(), spot{kind: m.kind()}, -1))
	}
	for range 1 + m.r.Intn(2) {
		add(&outs, spot{kind: m.kind()}, m.r.Intn(100), "")
	}
	for range m.r.Intn(7) {
		at, rank, on := spot{kind: m.kind()}, m.r.Intn(100), ""
		if len(m.bools) > 0 && m.r.Intn(3) > 0 {
			by, not := pick(m, m.bools), pick(m, []string{"", "not."})
			at.clock, on = m.clocks[by]+" "+not+by, " when "+strings.ReplaceAll(not, ".", " ")+by
			rank = max(rank, m.ranks[by]+1)
		}
		add(&locals, at, rank, on)
	}
	text := "node " + name + "(" + strings.Join(ins, "; ") + ") returns (" + strings.Join(outs, "; ") + "); var"
	if len(locals) > 0 {
		text += " " + strings.Join(locals, "; ")
	}
	text += "; let"
	for _, k := range m.r.Perm(len(all)) {
		m.own = m.ranks[all[k]]
		text += " " + all[k] + " = " + m.part(spots[k], 1+m.r.Intn(4)) + ";"
	}
	return text + " tel "
}

// program makes one whose places are any: later in the program isn't further on in the text.
func (m *maker) program(t *testing.T) []syn.Node {
	t.Helper()
	text := "node g(a: int; b: bool) returns (y: int); let y = if b then a else 1; tel "
	for k := range 1 + m.r.Intn(3) {
		text += m.node("f" + strconv.Itoa(k))
	}
	l := parse(t, text)
	for i := range l {
		for k := range l[i].Eqs {
			l[i].Eqs[k].At = m.r.Intn(1<<30) - 1<<29
		}
	}
	return l
}

// checkSlow holds all calls against the chapter's words, gone through slowly, and tells what the fault is of.
func checkSlow(t *testing.T, l []syn.Node) string {
	t.Helper()
	for _, n := range l {
		for _, v := range slices.Concat(n.In, own(n), []syn.Var{{Name: "nobody"}, {Name: n.Name}, {}}) {
			holdLeans(t, n, v.Name, strings.Join(slowLeans(n, v.Name), " "))
		}
		order, ok := slowOrder(n)
		if !ok {
			order = []string{"none"}
		}
		holdOrder(t, n, strings.Join(order, " "))
	}
	want, of := slowCheck(l)
	if f := cau.Check(l); f != want {
		t.Errorf("P10.1: Check of\n%s(%+v): %v at %d, want %v at %d", syn.Show(l), l, f.Err, f.At, want.Err, want.At)
	}
	return of
}

// P10.1, R4, R5: programs at random.
func TestPrograms(t *testing.T) {
	if testing.Short() {
		t.Skip("it takes a few seconds")
	}
	m := &maker{r: rand.New(rand.NewSource(10))}
	seen := map[string]int{}
	for range 6000 {
		if t.Failed() {
			return
		}
		l := m.program(t)
		was := fmt.Sprintf("%+v", l)
		of := checkSlow(t, l)
		for _, n := range l {
			if o, ok := cau.Order(n); ok && !slices.IsSortedFunc(o, func(a, b string) int { return place(n, a) - place(n, b) }) {
				seen["another order"]++
			}
		}
		seen[of]++
		if checkSlow(t, l); fmt.Sprintf("%+v", l) != was {
			t.Errorf("R4: what was handed in was changed: %+v, and was %s", l, was)
		}
	}
	for _, of := range []string{"none", "another order", "itself", "others", "others, behind one that leans on it", "others, in a later node"} {
		if seen[of] < 50 {
			t.Errorf("of all faults, those of %s were made %d times", of, seen[of])
		}
	}
}

func place(n syn.Node, name string) int {
	return slices.IndexFunc(own(n), func(v syn.Var) bool { return v.Name == name })
}

// P10.1: every node of four names, each of which leans on any of them.
func TestAllRings(t *testing.T) {
	names := []string{"a", "b", "d", "e"}
	for mask := range 1 << (len(names) * len(names)) {
		n := syn.Node{Name: "f"}
		for k, name := range names {
			e := syn.Expr{Op: "int"}
			for j, w := range names {
				if mask>>(len(names)*k+j)&1 == 1 {
					e = syn.Expr{Op: "+", Kids: []syn.Expr{e, {Op: "var", Name: w}}}
				}
			}
			n.Out = append(n.Out, syn.Var{Name: name, Kind: api.Int})
			n.Eqs = append(n.Eqs, syn.Eq{Name: name, E: e, At: 1 + (k+mask)%len(names)})
		}
		slices.SortFunc(n.Eqs, func(a, b syn.Eq) int { return a.At - b.At })
		if checkRings(t, n, mask, names); t.Failed() {
			return
		}
	}
}

// checkRings asks of all that lean on others by a bit of mask for each two.
func checkRings(t *testing.T, n syn.Node, mask int, names []string) {
	t.Helper()
	count := len(names)
	var reach [4][4]bool
	for k := range count * count {
		reach[k/count][k%count] = mask>>k&1 == 1
	}
	for by := range count {
		for k := range count * count {
			reach[k/count][k%count] = reach[k/count][k%count] || reach[k/count][by] && reach[by][k%count]
		}
	}
	var want api.Fault
	for _, q := range slices.Backward(n.Eqs) {
		if k := slices.Index(names, q.Name); reach[k][k] {
			want = api.Fault{Err: api.ECAUSE, At: q.At}
		}
	}
	if f := cau.Check([]syn.Node{n}); f != want {
		t.Errorf("P10.1: Check of\n%s: %v at %d, want %v at %d", syn.Show([]syn.Node{n}), f.Err, f.At, want.Err, want.At)
	}
	if _, ok := cau.Order(n); ok != (want.Err == api.OK) {
		t.Errorf("P10.1: Order of\n%s: %v", syn.Show([]syn.Node{n}), ok)
	}
}

// roomy is a program whose lists all have spare room, with something in it.
func roomy(l []syn.Node) []syn.Node {
	var expr func(e syn.Expr) syn.Expr
	expr = func(e syn.Expr) syn.Expr {
		var kids []syn.Expr
		for _, k := range e.Kids {
			kids = append(kids, expr(k))
		}
		e.Kids = append(kids, syn.Expr{Op: "var", Name: "y"}, syn.Expr{Op: "spare"})[:len(kids)]
		return e
	}
	vars := func(l []syn.Var) []syn.Var {
		return append(slices.Clone(l), syn.Var{Name: "spare"}, syn.Var{Name: "spare"})[:len(l)]
	}
	var all []syn.Node
	for _, n := range l {
		n.In, n.Out, n.Locals = vars(n.In), vars(n.Out), vars(n.Locals)
		n.Eqs = append(slices.Clone(n.Eqs), syn.Eq{Name: "spare"}, syn.Eq{Name: "spare"})[:len(n.Eqs)]
		for i := range n.Eqs {
			n.Eqs[i].E = expr(n.Eqs[i].E)
		}
		all = append(all, n)
	}
	return append(all, syn.Node{Name: "spare"}, syn.Node{Name: "spare"})[:len(l)]
}

// dumpRoom tells all of a program, spare room too.
func dumpRoom(l []syn.Node) string {
	var s strings.Builder
	var expr func(e syn.Expr)
	expr = func(e syn.Expr) {
		fmt.Fprintf(&s, "(%s %s %d %d", e.Op, e.Name, e.N, e.At)
		for _, k := range e.Kids[:cap(e.Kids)] {
			expr(k)
		}
		s.WriteString(")")
	}
	for _, n := range l[:cap(l)] {
		fmt.Fprintf(&s, "%s %d %v %v %v\n", n.Name, n.At, n.In[:cap(n.In)], n.Out[:cap(n.Out)], n.Locals[:cap(n.Locals)])
		for _, q := range n.Eqs[:cap(n.Eqs)] {
			fmt.Fprintf(&s, "%s %d ", q.Name, q.At)
			expr(q.E)
		}
	}
	return s.String()
}

// R4: no call changes what is handed in, spare room too; a program that has it answers as one that hasn't.
func TestCallsChangeNothing(t *testing.T) {
	for _, e := range []string{"merge k (merge c 1 2 when k) (v) + s", "g(x, 0 fby y + p)", "p + (if k then y else 1)"} {
		bare := parse(t, declares+e+"; tel")
		l := roomy(bare)
		was := dumpRoom(l)
		if cau.Check(l) != cau.Check(bare) {
			t.Errorf("R4: Check with spare room: %v, and without: %v", cau.Check(l), cau.Check(bare))
		}
		checkSlow(t, l)
		if dumpRoom(l) != was {
			t.Errorf("R4: what was handed in was changed: %s, and was %s", dumpRoom(l), was)
		}
	}
}

// R4: the names that were told may be written to, spare room too, without changing what is told later.
func TestAnswersAreNew(t *testing.T) {
	n := program(t, "p + q + r")
	order := func(syn.Node, string) []string {
		l, _ := cau.Order(n)
		return l
	}
	for _, ask := range []func(syn.Node, string) []string{cau.Leans, order} {
		want := slices.Clone(ask(n, "y"))
		for range 3 {
			a, b := ask(n, "y"), ask(n, "y")
			for _, l := range [][]string{a, b} {
				if !slices.Equal(l, want) {
					t.Errorf("R4: told %q, want %q", l, want)
				}
			}
			for k := range a[:cap(a)] {
				a[:cap(a)][k] = "x"
			}
			if !slices.Equal(b, want) {
				t.Errorf("R4: an answer is changed by what was told ahead: %q", b)
			}
			clear(b[:cap(b)])
		}
	}
}

// R4: nil and an empty list are one.
func TestEmptyLists(t *testing.T) {
	for _, none := range [][]syn.Expr{nil, {}} {
		n := syn.Node{Name: "f", In: []syn.Var{}, Out: []syn.Var{{Name: "y"}}, Locals: []syn.Var{}, Eqs: []syn.Eq{{Name: "y", E: syn.Expr{Op: "call", Name: "g", Kids: none}}}}
		holdLeans(t, n, "y", "")
		holdOrder(t, n, "y")
		if f := cau.Check([]syn.Node{n}); f != (api.Fault{}) {
			t.Errorf("R4: Check with empty lists: %v at %d", f.Err, f.At)
		}
	}
	n := syn.Node{In: []syn.Var{}, Out: []syn.Var{}, Locals: []syn.Var{}, Eqs: []syn.Eq{}}
	holdLeans(t, n, "y", "")
	holdOrder(t, n, "")
}

// P10.1: of each Op, which kids count, and whether its own name does; of an Op that there is not, as of a call. No call
// falls at parts that lack kids or have too many.
func TestOddParts(t *testing.T) {
	ops := []string{"", "what", "int", "bool", "var", "call", "not", "neg", "pre", "->", "fby", "when", "if", "merge", "+", "-", "*", "/", "mod", "=", "<>", "<", "<=", ">", ">=", "and", "or", "xor"}
	for _, op := range ops {
		for count := range 5 {
			n := syn.Node{In: []syn.Var{{Name: "x"}}, Out: []syn.Var{{Name: "y"}}}
			e := syn.Expr{Op: op, Name: "own"}
			var want []string
			for k := range count {
				name := "v" + strconv.Itoa(k)
				n.Locals = append(n.Locals, syn.Var{Name: name})
				e.Kids = append(e.Kids, syn.Expr{Op: "var", Name: name})
				if op != "pre" && (op != "fby" || k != 1) {
					want = append(want, name)
				}
			}
			n.Locals = append(n.Locals, syn.Var{Name: "own"})
			if op == "var" || op == "when" || op == "merge" {
				want = append(want, "own")
			}
			n.Eqs = []syn.Eq{{Name: "y", E: e}}
			holdLeans(t, n, "y", strings.Join(want, " "))
			n.Eqs = []syn.Eq{{Name: "y", E: syn.Expr{Op: "neg", Kids: []syn.Expr{e}}}}
			holdLeans(t, n, "y", strings.Join(want, " "))
		}
	}
}

// R1: nodes that names has a fault of: an input leans on nobody, a name's first declaration and its first equation count,
// who has no equation leans on his Ons alone, and Ons may come back to themselves.
func TestFaultyNames(t *testing.T) {
	of := func(name string) syn.Expr { return syn.Expr{Op: "var", Name: name} }
	n := syn.Node{
		In:     []syn.Var{{Name: "x"}, {Name: "d"}},
		Out:    []syn.Var{{Name: "y"}, {Name: "z"}},
		Locals: []syn.Var{{Name: "a", On: "z"}, {Name: "d", On: "y"}, {Name: "a", On: "y"}, {Name: "b", On: "nobody"}},
		Eqs:    []syn.Eq{{Name: "x", E: of("x"), At: 1}, {Name: "nobody", E: of("nobody"), At: 2}, {Name: "y", E: of("a"), At: 3}, {Name: "y", E: of("b"), At: 4}, {Name: "d", E: of("y"), At: 5}},
	}
	for name, want := range map[string]string{"x": "", "d": "", "nobody": "", "y": "a", "z": "", "a": "z", "b": ""} {
		holdLeans(t, n, name, want)
	}
	holdOrder(t, n, "z a y b")
	if f := cau.Check([]syn.Node{n}); f != (api.Fault{}) {
		t.Errorf("P10.1: Check of an input that leans on itself: %v at %d", f.Err, f.At)
	}
	n = syn.Node{Locals: []syn.Var{{Name: "a", On: "b"}, {Name: "b", On: "a"}, {Name: "d", On: "a"}, {Name: "e", On: "e"}, {}}}
	for name, want := range map[string]string{"a": "a b", "b": "a b", "d": "a b", "e": "e", "": ""} {
		holdLeans(t, n, name, want)
	}
	holdOrder(t, n, "none")
	n.Eqs = []syn.Eq{{At: 1}, {Name: "d", At: 2}, {Name: "b", At: 3}, {Name: "a", At: 4}}
	if f := cau.Check([]syn.Node{n}); f != (api.Fault{Err: api.ECAUSE, At: 3}) {
		t.Errorf("P10.1: Check of Ons that come back to themselves: %v at %d", f.Err, f.At)
	}
}

// P10.1: an On holds up its name beside whom the expression names, where no clock fits, too: else these are behind it.
func TestOnsBesideNames(t *testing.T) {
	of := func(name string) syn.Expr { return syn.Expr{Op: "var", Name: name} }
	n := syn.Node{Locals: []syn.Var{{Name: "k"}, {Name: "a", On: "k"}, {Name: "b"}, {Name: "d"}}, Eqs: []syn.Eq{{Name: "a", E: of("b"), At: 1}, {Name: "k", E: of("d"), At: 2}}}
	holdLeans(t, n, "a", "k b")
	holdOrder(t, n, "b d k a")
	if f := cau.Check([]syn.Node{n}); f != (api.Fault{}) {
		t.Errorf("P10.1: Check of an On that has no fault: %v at %d", f.Err, f.At)
	}
	n.Eqs = append(n.Eqs, syn.Eq{Name: "d", E: of("a"), At: 3})
	holdOrder(t, n, "none")
	if f := cau.Check([]syn.Node{n}); f != (api.Fault{Err: api.ECAUSE, At: 1}) {
		t.Errorf("P10.1: Check of an On that leans on whom it is the On of: %v at %d", f.Err, f.At)
	}
}

// R1: trees of 2^16 parts nested in one another.
func TestDeepTrees(t *testing.T) {
	const count = 1<<16 - 2
	for _, op := range []string{"neg", "+", "->", "fby", "if", "when", "merge", "call", "pre"} {
		for _, last := range []bool{true, false} {
			e := syn.Expr{Op: "var", Name: "y"}
			for range count {
				kids := []syn.Expr{e}
				if slices.Contains([]string{"+", "->", "fby", "if", "merge"}, op) && last {
					kids = []syn.Expr{{Op: "int"}, e}
				}
				e = syn.Expr{Op: op, Name: map[string]string{"call": "id", "when": "c", "merge": "c"}[op], Kids: kids}
			}
			n := syn.Node{Name: "f", In: []syn.Var{{Name: "c", Kind: api.Bool}}, Out: []syn.Var{{Name: "y", Kind: api.Int}}, Eqs: []syn.Eq{{Name: "y", E: e, At: 5}}}
			leans, order, want := "y", "none", api.Fault{Err: api.ECAUSE, At: 5}
			if op == "pre" || op == "fby" && last {
				leans, order, want = "", "y", api.Fault{}
			}
			if l := cau.Leans(n, "y"); !slices.Equal(l, strings.Fields(leans)) {
				t.Errorf("R1: Leans of a deep %s: %q", op, l)
			}
			if l, ok := cau.Order(n); ok != (order != "none") || len(l) != strings.Count(order, "y") {
				t.Errorf("R1: Order of a deep %s: %q, %v", op, l, ok)
			}
			if f := cau.Check([]syn.Node{n}); f != want {
				t.Errorf("R1: Check of a deep %s: %v at %d, want %v", op, f.Err, f.At, want.Err)
			}
		}
	}
}

// wide is a node of far more names than a text may declare, as one that was made of many: a row, each of which leans on
// the one ahead, by naming it or by its On; the first one leans on first.
func wide(count int, byOn bool, first string) syn.Node {
	n := syn.Node{Name: "f", Out: []syn.Var{{Name: "y", Kind: api.Int}}}
	ahead := first
	for k := range count {
		v, q := syn.Var{Name: "v" + strconv.Itoa(k), Kind: api.Bool}, syn.Eq{Name: "v" + strconv.Itoa(k), E: syn.Expr{Op: "bool"}, At: k}
		if byOn {
			v.On = ahead
		} else {
			q.E = syn.Expr{Op: "not", Kids: []syn.Expr{{Op: "var", Name: ahead}}}
		}
		n.Locals = append(n.Locals, v)
		n.Eqs = append(n.Eqs, q)
		ahead = v.Name
	}
	n.Eqs = append(n.Eqs, syn.Eq{Name: "y", E: syn.Expr{Op: "var", Name: ahead}, At: -1})
	return n
}

// R1: long rows of names, declared with the leaning or against it, or coming back to themselves, come to an end soon.
func TestWideNodes(t *testing.T) {
	const count = 100000
	last := "v" + strconv.Itoa(count-1)
	for first, isRinged := range map[string]func(name string) bool{
		"x":  func(string) bool { return false },
		"y":  func(string) bool { return true },
		"v0": func(name string) bool { return name == "v0" },
		last: func(name string) bool { return name != "y" },
	} {
		for _, byOn := range []bool{false, true} {
			n := wide(count, byOn, first)
			leans := 1
			if byOn {
				leans = len(slices.DeleteFunc(own(n), func(v syn.Var) bool { return first != last && v.Name == last || first != "y" && v.Name == "y" }))
			}
			for range 2 {
				holdWide(t, n, isRinged)
				if l := cau.Leans(n, last); len(l) != leans {
					t.Errorf("R1: Leans at the end of a long row from %s on (of Ons: %v): %d names, want %d", first, byOn, len(l), leans)
				}
				slices.Reverse(n.Eqs)
				slices.Reverse(n.Locals)
			}
		}
	}
}

// holdWide holds Check and Order of a row that stands in order, but for where it is declared.
func holdWide(t *testing.T, n syn.Node, isRinged func(name string) bool) {
	t.Helper()
	var want api.Fault
	if k := slices.IndexFunc(n.Eqs, func(q syn.Eq) bool { return isRinged(q.Name) }); k >= 0 {
		want = api.Fault{Err: api.ECAUSE, At: n.Eqs[k].At}
	}
	if f := cau.Check([]syn.Node{n}); f != want {
		t.Errorf("R1: Check of a long row: %v at %d, want %v at %d", f.Err, f.At, want.Err, want.At)
	}
	var order []string
	if want.Err == api.OK {
		for k := range n.Locals {
			order = append(order, "v"+strconv.Itoa(k))
		}
		order = append(order, "y")
	}
	if l, ok := cau.Order(n); ok != (want.Err == api.OK) || !slices.Equal(l, order) {
		t.Errorf("R1: Order of a long row: %d names, %v", len(l), ok)
	}
}

// R1: many that could be next, and many that lean on one, come to an end soon.
func TestManyNext(t *testing.T) {
	const count = 100000
	n := syn.Node{Out: []syn.Var{{Name: "y"}}}
	sum := syn.Expr{Op: "call"}
	for k := range count {
		name := "v" + strconv.Itoa(k)
		n.Locals = append(n.Locals, syn.Var{Name: name})
		n.Eqs = append(n.Eqs, syn.Eq{Name: name, E: syn.Expr{Op: "var", Name: "z"}})
		sum.Kids = append(sum.Kids, syn.Expr{Op: "var", Name: name})
	}
	n.Locals = append(n.Locals, syn.Var{Name: "z"})
	n.Eqs = append(n.Eqs, syn.Eq{Name: "y", E: sum})
	o, ok := cau.Order(n)
	if !ok || len(o) != count+2 || o[0] != "z" || o[1] != "v0" || o[count] != "v"+strconv.Itoa(count-1) || o[count+1] != "y" {
		t.Errorf("R1: Order of many: %d names, %v", len(o), ok)
	}
	if l := cau.Leans(n, "y"); len(l) != count || l[0] != "v0" {
		t.Errorf("R1: Leans on many: %d names", len(l))
	}
	if f := cau.Check([]syn.Node{n}); f != (api.Fault{}) {
		t.Errorf("R1: Check of many: %v at %d", f.Err, f.At)
	}
}

// P10.1, R1: any program that syn reads and the layers behind it have no fault of.
func FuzzCheck(f *testing.F) {
	for _, text := range []string{
		"node f() returns (y: int); let y = y + 1; tel", "node f() returns (y: int); let y = 0 fby y; tel",
		"node f(c: bool) returns (y: int); var a: bool; b: int when not a; let y = merge a 1 b; b = 0 -> pre (y when not a); a = true fby c; tel",
		declares + "if k() then g(x, merge k (u) (v)) else y fby y; tel",
	} {
		f.Add(text)
	}
	f.Fuzz(func(t *testing.T, text string) {
		if l, fault := syn.Parse(text); fault.Err == api.OK && isFit(l) {
			checkSlow(t, l)
		}
	})
}
