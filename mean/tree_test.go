package mean_test

import (
	"fmt"
	"math/rand"
	"slices"
	"strconv"
	"strings"
	"testing"

	"escapement/api"
	"escapement/clk"
	"escapement/front"
	"escapement/mean"
	"escapement/syn"
)

// spot is where a name may stand: its kind, and its clock as a row of steps, each with a blank ahead.
type spot struct {
	kind  api.Kind
	clock string
}

// maker makes programs at random that have no fault. It ranks a node's names, so that at one tick each leans on those of
// lower ranks alone; and it knows which may be late.
type maker struct {
	r       *rand.Rand
	own     int // the rank of the name whose equation is made; above all, where a value of the tick ahead is asked for
	names   map[spot][]string
	bools   []string
	clocks  map[string]string
	ranks   map[string]int
	late    map[string]int // 1: it may be
	callees []callee
}

type callee struct {
	name string
	ins  []api.Kind
	out  api.Kind
}

const anyRank = 1 << 20

func pick[T any](m *maker, l []T) T { return l[m.r.Intn(len(l))] }

func word(k api.Kind) string { return map[api.Kind]string{api.Bool: "bool", api.Int: "int"}[k] }

func (m *maker) kind() api.Kind { return pick(m, []api.Kind{api.Bool, api.Int, api.Int}) }

// declare declares a name on that clock.
func (m *maker) declare(name string, at spot, rank int) string {
	m.names[at] = append(m.names[at], name)
	if at.kind == api.Bool {
		m.bools = append(m.bools, name)
	}
	m.clocks[name], m.ranks[name] = at.clock, rank
	return name + ": " + word(at.kind)
}

// fit are names that may stand there.
func (m *maker) fit(at spot, late bool) []string {
	return slices.DeleteFunc(slices.Clone(m.names[at]), func(name string) bool { return m.ranks[name] >= m.own || m.late[name] == 1 && !late })
}

// part makes an expression, which may be late or not.
func (m *maker) part(at spot, depth int, late bool) string {
	kid := func(k api.Kind, clock string) string { return m.part(spot{k, clock}, depth-1, late) }
	two := func(k api.Kind, op string) string {
		return "(" + kid(k, at.clock) + " " + op + " " + kid(k, at.clock) + ")"
	}
	sort := m.r.Intn(12)
	if depth == 0 {
		sort = m.r.Intn(2)
	}
	names, bools := m.fit(at, late), m.fit(spot{api.Bool, at.clock}, false)
	steps := strings.Fields(at.clock)
	switch {
	case sort <= 1 && len(names) > 0 && m.r.Intn(5) > 0:
		return pick(m, names)
	case sort == 2 && depth > 0:
		return m.before(at, depth, late)
	case sort == 3:
		return "(" + m.part(at, depth-1, false) + " -> " + m.part(at, depth-1, true) + ")"
	case sort == 4 && at.kind == api.Int:
		return pick(m, []string{two(api.Int, pick(m, []string{"+", "-", "*", "/", "mod"})), "(- " + kid(api.Int, at.clock) + ")"})
	case sort == 4:
		return pick(m, []string{two(api.Bool, pick(m, []string{"and", "or", "xor", "=", "<>"})), two(api.Int, pick(m, []string{"=", "<>", "<", "<=", ">", ">="})), "(not " + kid(api.Bool, at.clock) + ")"})
	case sort == 5:
		return "(if " + kid(api.Bool, at.clock) + " then " + kid(at.kind, at.clock) + " else " + kid(at.kind, at.clock) + ")"
	case (sort == 6 || sort == 7) && len(bools) > 0:
		by := pick(m, bools)
		return "(merge " + by + " (" + m.part(spot{at.kind, at.clock + " " + by}, depth-1, false) + ") (" + m.part(spot{at.kind, at.clock + " not." + by}, depth-1, false) + "))"
	case sort >= 6 && sort <= 9 && len(steps) > 0:
		last := steps[len(steps)-1]
		beneath := spot{at.kind, strings.TrimSuffix(at.clock, " "+last)}
		e := m.part(beneath, depth-1, late)
		if depth > 1 && m.r.Intn(2) == 0 {
			e = m.before(beneath, depth-1, late)
		}
		return "(" + e + " when " + strings.ReplaceAll(last, ".", " ") + ")"
	case sort >= 8 && depth > 0:
		if e := m.call(at, depth); e != "" {
			return e
		}
	}
	if at.kind == api.Bool {
		return pick(m, []string{"true", "false"})
	}
	return pick(m, []string{"0", "1", "2", "3", "10", "9223372036854775807", "3037000500"})
}

// before makes a part that holds a value of the tick ahead, of any name.
func (m *maker) before(at spot, depth int, late bool) string {
	first, own := m.part(at, depth-1, false), m.own
	m.own = anyRank
	then := m.part(at, depth-1, false)
	m.own = own
	if late && m.r.Intn(3) > 0 {
		return "(pre " + then + ")"
	}
	return "(" + first + pick(m, []string{" fby ", " -> pre "}) + then + ")"
}

// call makes a call of a node ahead, if there is one of that kind.
func (m *maker) call(at spot, depth int) string {
	of := slices.DeleteFunc(slices.Clone(m.callees), func(c callee) bool { return c.out != at.kind })
	if len(of) == 0 {
		return ""
	}
	called := pick(m, of)
	var args []string
	for _, k := range called.ins {
		args = append(args, m.part(spot{k, at.clock}, depth-1, false))
	}
	return called.name + "(" + strings.Join(args, ", ") + ")"
}

// node makes a node's text: its equations stand in any order.
func (m *maker) node(name string) string {
	m.names, m.bools, m.clocks, m.ranks, m.late = map[spot][]string{}, nil, map[string]string{}, map[string]int{}, map[string]int{}
	var ins, outs, locals, all []string
	var spots []spot
	next := func() string { return pick(m, []string{"a", "b", "k", "z"}) + strconv.Itoa(len(m.clocks)) }
	add := func(l *[]string, at spot, rank int, on string) {
		all, spots = append(all, next()), append(spots, at)
		*l = append(*l, m.declare(all[len(all)-1], at, rank)+on)
	}
	self := callee{name: name}
	for range m.r.Intn(4) {
		self.ins = append(self.ins, m.kind())
		ins = append(ins, m.declare(next(), spot{kind: self.ins[len(self.ins)-1]}, -1))
	}
	for range 1 + m.r.Intn(5)/3 {
		self.out = m.kind()
		add(&outs, spot{kind: self.out}, m.r.Intn(100), "")
	}
	for range m.r.Intn(7) {
		at, rank, on := spot{kind: m.kind()}, m.r.Intn(100), ""
		if len(m.bools) > 0 && m.r.Intn(4) > 0 {
			by, not := pick(m, m.bools[len(m.bools)/2:]), pick(m, []string{"", "not."})
			at.clock, on = m.clocks[by]+" "+not+by, " when "+strings.ReplaceAll(not, ".", " ")+by
			rank = max(rank, m.ranks[by]+1)
		}
		add(&locals, at, rank, on)
		if m.r.Intn(3) == 0 {
			m.late[all[len(all)-1]] = 1
			m.bools = slices.DeleteFunc(m.bools, func(name string) bool { return name == all[len(all)-1] })
		}
	}
	text := "node " + name + "(" + strings.Join(ins, "; ") + ") returns (" + strings.Join(outs, "; ") + "); var"
	if len(locals) > 0 {
		text += " " + strings.Join(locals, "; ")
	}
	text += "; let"
	for _, k := range m.r.Perm(len(all)) {
		m.own = m.ranks[all[k]]
		text += " " + all[k] + " = " + m.part(spots[k], 1+m.r.Intn(5), m.late[all[k]] == 1) + ";"
	}
	if len(outs) == 1 {
		m.callees = append(m.callees, self)
	}
	return text + " tel "
}

func (m *maker) program() string {
	m.callees = nil
	text := ""
	for k := range 1 + m.r.Intn(4) {
		text += m.node("f" + strconv.Itoa(k))
	}
	return text
}

// rows makes rows that fit.
func (m *maker) rows(vars []syn.Var) []api.Row {
	var l []api.Row
	for range m.r.Intn(14) {
		var r api.Row
		for _, v := range vars {
			n := m.r.Int63n(2)
			if v.Kind == api.Int && m.r.Intn(8) == 0 {
				n = pick(m, edges)
			} else if v.Kind == api.Int {
				n = m.r.Int63n(20) - 8
			}
			r = append(r, n)
		}
		l = append(l, r)
	}
	return l
}

// notice tells what a program has: parts, parts within parts, and these within a when of a name that has steps itself.
func notice(l []syn.Node, seen map[string]int) {
	var walk func(n syn.Node, e syn.Expr, within string)
	walk = func(n syn.Node, e syn.Expr, within string) {
		seen[e.Op]++
		seen[within+e.Op]++
		within = e.Op + " of "
		if e.Op == "when" && len(clk.Of(n, e.Name)) > 0 {
			within = "inner when of "
		}
		for _, k := range e.Kids {
			walk(n, k, within)
		}
	}
	for _, n := range l {
		for _, q := range n.Eqs {
			walk(n, q.E, "")
		}
	}
}

// checkSlow holds what a program means against the chapter, gone through slowly.
func checkSlow(t *testing.T, text string, l []syn.Node, in []api.Row, seen map[string]int) {
	t.Helper()
	want, err := slowRun(l, in, seen)
	for range 2 {
		if out, e := mean.Run(l, in); e != err || written(out) != written(want) || len(out) != len(want) {
			t.Errorf("P12.1: Run of\n%sof %s: %v, %s, want %v, %s", syn.Show(l), written(in), e, written(out), err, written(want))
		}
	}
	if out, f := mean.Text(text, in); f != (api.Fault{Err: err}) || written(out) != written(want) {
		t.Errorf("P12.1: Text(%q) of %s: %v at %d, %s, want %v, %s", text, written(in), f.Err, f.At, written(out), err, written(want))
	}
}

// P12.1, R4, R5: programs at random.
func TestPrograms(t *testing.T) {
	if testing.Short() {
		t.Skip("it takes a few seconds")
	}
	m := &maker{r: rand.New(rand.NewSource(12))}
	seen := map[string]int{}
	for range 12000 {
		if t.Failed() {
			return
		}
		text := m.program()
		l, f := front.Check(text)
		if f.Err != api.OK {
			if f.Err != api.ELIMIT {
				t.Errorf("P12.1: what was made has a fault: %q: %v at %d", text, f.Err, f.At)
			}
			continue
		}
		in := m.rows(front.Main(l).In)
		was := fmt.Sprintf("%+v %v", l, in)
		checkSlow(t, text, l, in, seen)
		notice(l, seen)
		if fmt.Sprintf("%+v %v", l, in) != was {
			t.Errorf("R4: what was handed in was changed: %+v %v, and was %s", l, in, was)
		}
	}
	for _, of := range []string{
		"int", "bool", "var", "call", "not", "neg", "pre", "+", "-", "*", "/", "mod", "=", "<>", "<", "<=", ">", ">=", "and", "or", "xor", "->", "fby", "when", "if", "merge",
		"inner when of pre", "inner when of fby", "inner when of ->", "inner when of call", "inner when of when", "when of pre", "when of fby", "when of ->", "when of call", "when of merge", "pre of ->", "pre of fby", "pre of call", "fby of fby", "fby of call", "merge of call", "merge of fby", "merge of when", "call of call", "call of fby", "call of when",
		"call that missed ticks",
	} {
		if seen[of] < 50 {
			t.Errorf("of all parts, there were %d of %s", seen[of], of)
		}
	}
}

// roomy is a program whose lists all have spare room, with something in it.
func roomy(l []syn.Node) []syn.Node {
	var exprs func(l []syn.Expr) []syn.Expr
	exprs = func(l []syn.Expr) []syn.Expr {
		var all []syn.Expr
		for _, e := range l {
			e.Kids = exprs(e.Kids)
			all = append(all, e)
		}
		return append(all, syn.Expr{Op: "spare"}, syn.Expr{Op: "spare"})[:len(l)]
	}
	vars := func(l []syn.Var) []syn.Var {
		return append(slices.Clone(l), syn.Var{Name: "spare"}, syn.Var{Name: "spare"})[:len(l)]
	}
	var all []syn.Node
	for _, n := range l {
		n.In, n.Out, n.Locals = vars(n.In), vars(n.Out), vars(n.Locals)
		n.Eqs = append(slices.Clone(n.Eqs), syn.Eq{Name: "spare"}, syn.Eq{Name: "spare"})[:len(n.Eqs)]
		for i := range n.Eqs {
			n.Eqs[i].E.Kids = exprs(n.Eqs[i].E.Kids)
		}
		all = append(all, n)
	}
	return append(all, syn.Node{Name: "spare"}, syn.Node{Name: "spare"})[:len(l)]
}

// dumpRoom tells all of a program, spare room too.
func dumpRoom(l []syn.Node) string {
	var s strings.Builder
	var expr func(e syn.Expr)
	expr = func(e syn.Expr) {
		fmt.Fprintf(&s, "(%s %s %d %d", e.Op, e.Name, e.N, e.At)
		for _, k := range e.Kids[:cap(e.Kids)] {
			expr(k)
		}
		s.WriteString(")")
	}
	for _, n := range l[:cap(l)] {
		fmt.Fprintf(&s, "%s %d %v %v %v\n", n.Name, n.At, n.In[:cap(n.In)], n.Out[:cap(n.Out)], n.Locals[:cap(n.Locals)])
		for _, q := range n.Eqs[:cap(n.Eqs)] {
			fmt.Fprintf(&s, "%s %d ", q.Name, q.At)
			expr(q.E)
		}
	}
	return s.String()
}

// samples are programs that have all of the language, each of x, an int, and c, a bool.
var samples = []string{
	sum + one("sum(x) + merge c (count()) ((0 fby x) when not c) * sum(count())"),
	"node g(a: int; c: bool) returns (y: int); var p: int when c; q: int when not c; let p = a when c -> pre p + 1; q = 3 fby (a when not c); y = merge c (p) (q); tel " + one("if c and g(x, c) < 5 xor true then - g(x, not c) else x mod 3 / 2"),
	"node f(x: int; c: bool) returns (y: int; o, z: bool); var late: int; e: bool when c; let late = pre x; y = 0 -> late - 1; e = true fby not e; o = merge c (e) false; z = c or x >= 3 or x <> y; tel",
}

// roomyRows are rows that fit samples, and have spare room with something in it.
func roomyRows() []api.Row {
	l := []api.Row{}
	for _, r := range rows("5 0;6 1;7 1;-8 0;9 1;0 0") {
		l = append(l, append(r, 77, 78)[:2])
	}
	return append(l, api.Row{79}, api.Row{80})[:len(l)]
}

// R4: no call changes what is handed in, spare room too; a program and rows that have it mean what those mean that haven't.
func TestCallsChangeNothing(t *testing.T) {
	for _, text := range samples {
		bare, in := program(t, text), roomyRows()
		l := roomy(bare)
		was, rowsWere := dumpRoom(l), fmt.Sprint(in[:cap(in)], in[0][:3], in[5][:4])
		want, e := mean.Run(bare, rows("5 0;6 1;7 1;-8 0;9 1;0 0"))
		out, f := mean.Run(l, in)
		if e != api.OK || f != e || written(out) != written(want) || len(out) != 6 {
			t.Errorf("R4: Run with spare room: %v, %s, and without: %v, %s", f, written(out), e, written(want))
		}
		if out, f := mean.Text(text, in); f.Err != api.OK || written(out) != written(want) {
			t.Errorf("R4: Text with spare room: %v, %s, want %s", f.Err, written(out), written(want))
		}
		if dumpRoom(l) != was || fmt.Sprint(in[:cap(in)], in[0][:3], in[5][:4]) != rowsWere {
			t.Errorf("R4: what was handed in was changed: %s %v, and was %s %s", dumpRoom(l), in, was, rowsWere)
		}
	}
}

// spoil writes over all that was told, spare room too.
func spoil(l []api.Row) {
	for _, r := range l[:cap(l)] {
		for k := range r[:cap(r)] {
			r[:cap(r)][k] = -77
		}
	}
}

// R4, R5: what was told shares nothing with what was handed in, nor with what was told ahead, nor row with row: each may be
// written to, spare room too.
func TestRowsAreNew(t *testing.T) {
	tell := func(l []syn.Node, text string, in []api.Row) [2][]api.Row {
		a, _ := mean.Run(l, in)
		b, _ := mean.Text(text, in)
		return [2][]api.Row{a, b}
	}
	for _, text := range append(slices.Clone(samples), "node f(x: int; c: bool) returns (y: int; o: bool); let y = x; o = c; tel") {
		l, in := program(t, text), roomyRows()
		want, inWere := written(tell(l, text, in)[0]), written(in)
		told, others := tell(l, text, in), tell(l, text, in)
		spoil(told[0])
		spoil(told[1])
		if written(others[0]) != want || written(others[1]) != want || written(in) != inWere || written(tell(l, text, in)[0]) != want {
			t.Errorf("R4: writing to what was told of %q changes what was handed in, or told", text)
		}
		spoil(in)
		for _, out := range others {
			if written(out) != want {
				t.Errorf("R4: what was told of %q is changed by writing to what was handed in", text)
			}
			holdRowsApart(t, text, out)
		}
	}
}

// holdRowsApart holds that no two rows share a place.
func holdRowsApart(t *testing.T, text string, l []api.Row) {
	t.Helper()
	seen, count := map[*int64]struct{}{}, 0
	for _, r := range l {
		for k := range r[:cap(r)] {
			seen[&r[:cap(r)][k]] = struct{}{}
			count++
		}
	}
	if len(seen) < count {
		t.Errorf("R4: of %d places of what was told of %q only %d are not shared", count, text, len(seen))
	}
}

// R1, P12.1: a node of as many names as may be counted, far more than a text may declare, as one that was made of many,
// with names that are none of a text's: each is the one ahead and 1, whose equations stand in order or against it.
func TestWideNodes(t *testing.T) {
	for size, want := range map[int]api.Errno{1: api.OK, api.MaxEqs: api.OK, api.MaxEqs + 1: api.ELIMIT, 100000: api.ELIMIT} {
		n := syn.Node{Name: "f g", In: []syn.Var{{Name: "x.x", Kind: api.Int}}, Out: []syn.Var{{Name: "0", Kind: api.Int}}}
		ahead := "x.x"
		for k := range size {
			name := strconv.Itoa(size - 1 - k)
			if name != "0" {
				n.Locals = append(n.Locals, syn.Var{Name: name, Kind: api.Int})
			}
			n.Eqs = append(n.Eqs, syn.Eq{Name: name, E: syn.Expr{Op: "+", Kids: []syn.Expr{{Op: "var", Name: ahead}, {Op: "int", N: 1}}}})
			ahead = name
		}
		for range 2 {
			var in []api.Row
			for k := range 1000 {
				in = append(in, api.Row{int64(k)})
			}
			out, e := mean.Run([]syn.Node{n}, in)
			if e != want || want == api.OK && (len(out) != 1000 || out[0][0] != int64(size) || out[999][0] != int64(999+size)) {
				t.Errorf("P12.1: Run of a node of %d equations: %v, %d rows", size, e, len(out))
			}
			slices.Reverse(n.Eqs)
			slices.Reverse(n.Locals)
		}
	}
}

// R1, P12.1: trees of 2^16 parts nested in one another.
func TestDeepTrees(t *testing.T) {
	const count = 1<<16 - 2
	x, zero := syn.Expr{Op: "var", Name: "x"}, syn.Expr{Op: "int"}
	for name, wrap := range map[string]func(e syn.Expr) syn.Expr{
		"neg":                  func(e syn.Expr) syn.Expr { return syn.Expr{Op: "neg", Kids: []syn.Expr{e}} },
		"+":                    func(e syn.Expr) syn.Expr { return syn.Expr{Op: "+", Kids: []syn.Expr{e, zero}} },
		"+ to the right":       func(e syn.Expr) syn.Expr { return syn.Expr{Op: "+", Kids: []syn.Expr{zero, e}} },
		"->":                   func(e syn.Expr) syn.Expr { return syn.Expr{Op: "->", Kids: []syn.Expr{e, x}} },
		"fby":                  func(e syn.Expr) syn.Expr { return syn.Expr{Op: "fby", Kids: []syn.Expr{e, zero}} },
		"fby that comes later": func(e syn.Expr) syn.Expr { return syn.Expr{Op: "fby", Kids: []syn.Expr{zero, e}} },
	} {
		e := x
		for range count {
			e = wrap(e)
		}
		n := syn.Node{Name: "f", In: []syn.Var{{Name: "x", Kind: api.Int}}, Out: []syn.Var{{Name: "y", Kind: api.Int}}, Eqs: []syn.Eq{{Name: "y", E: e}}}
		want := map[string]string{"->": "5;6", "fby": "5;0", "fby that comes later": "0;0"}[name]
		if want == "" {
			want = "5;6"
		}
		if out, e := mean.Run([]syn.Node{n}, rows("5;6")); e != api.OK || written(out) != want {
			t.Errorf("P12.1: Run of a deep %s: %v, %s, want %s", name, e, written(out), want)
		}
	}
}

// R1: many rows, and the greatest programs, come to an end soon.
func TestManyTicks(t *testing.T) {
	if testing.Short() {
		t.Skip("it takes a second")
	}
	in := slices.Repeat([]api.Row{{1, 1}}, 200000)
	out, f := mean.Text(sum+one("sum(x) - count() + merge c (sum(x when c)) (0)"), in)
	if f.Err != api.OK || len(out) != len(in) || out[len(in)-1][0] != int64(len(in)) {
		t.Errorf("P12.1: Text of many rows: %v, %d rows", f.Err, len(out))
	}
	terms := strings.Repeat(" + x", 148)
	ahead := "node g(x: int) returns (y: int); var a, b, d, e, h, i, j, k: int; let "
	for _, name := range strings.Fields("a b d e h i j k y") {
		ahead += name + " = x" + terms + "; "
	}
	text := ahead + "tel " + one("0"+strings.Repeat(" + g(x)", 75))
	out, f = mean.Text(text, in[:200])
	if f.Err != api.OK || len(out) != 200 || out[199][0] != 75*149 {
		t.Errorf("P12.1: Text of a great program: %v, %d rows", f.Err, len(out))
	}
}

// P12.1, R1, T1: any text, of rows made of any bytes: a fault, or what it means.
func FuzzText(f *testing.F) {
	for _, text := range samples {
		f.Add(text, []byte{5, 0, 6, 1, 7, 1, 248, 0, 9, 1})
	}
	f.Add("node f() returns (y: int); let y = z; tel", []byte{})
	f.Add(one("x ? c"), []byte{1})
	f.Fuzz(func(t *testing.T, text string, b []byte) {
		l, fault := front.Check(text)
		if fault.Err != api.OK {
			if out, f := mean.Text(text, nil); f != fault || len(out) != 0 {
				t.Errorf("P12.1: Text(%q): %v at %d, want %v at %d", text, f.Err, f.At, fault.Err, fault.At)
			}
			return
		}
		vars := front.Main(l).In
		var in []api.Row
		for len(vars) > 0 && len(b) >= len(vars) && len(in) < 20 {
			var r api.Row
			for k, v := range vars {
				n := int64(int8(b[k]))
				if v.Kind == api.Bool {
					n &= 1
				}
				r = append(r, n)
			}
			in, b = append(in, r), b[len(vars):]
		}
		checkSlow(t, text, l, in, map[string]int{})
	})
}
