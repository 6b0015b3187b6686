package flat_test

import (
	"math/rand"
	"slices"
	"strconv"
	"strings"

	"escapement/api"
	"escapement/syn"
)

// spot is where a name may stand: its kind, and its clock as a row of steps, each with a blank ahead.
type spot struct {
	kind  api.Kind
	clock string
}

// maker makes programs at random that have no fault. It ranks a node's names, so that at one tick each leans on those of
// lower ranks alone; and it knows which may be late.
type maker struct {
	r       *rand.Rand
	own     int // the rank of the name whose equation is made; above all, where a value of the tick ahead is asked for
	names   map[spot][]string
	bools   []string
	clocks  map[string]string
	ranks   map[string]int
	late    map[string]int // 1: it may be
	callees []callee
}

type callee struct {
	name string
	ins  []api.Kind
	out  api.Kind
}

const anyRank = 1 << 20

func pick[T any](m *maker, l []T) T { return l[m.r.Intn(len(l))] }

func word(k api.Kind) string { return map[api.Kind]string{api.Bool: "bool", api.Int: "int"}[k] }

func (m *maker) kind() api.Kind { return pick(m, []api.Kind{api.Bool, api.Int, api.Int}) }

// declare declares a name on that clock.
func (m *maker) declare(name string, at spot, rank int) string {
	m.names[at] = append(m.names[at], name)
	if at.kind == api.Bool {
		m.bools = append(m.bools, name)
	}
	m.clocks[name], m.ranks[name] = at.clock, rank
	return name + ": " + word(at.kind)
}

// fit are names that may stand there.
func (m *maker) fit(at spot, late bool) []string {
	return slices.DeleteFunc(slices.Clone(m.names[at]), func(name string) bool { return m.ranks[name] >= m.own || m.late[name] == 1 && !late })
}

// part makes an expression, which may be late or not.
func (m *maker) part(at spot, depth int, late bool) string {
	sort := m.r.Intn(14)
	if depth == 0 {
		sort = m.r.Intn(2)
	}
	names, bools := m.fit(at, late), m.fit(spot{api.Bool, at.clock}, false)
	switch {
	case sort <= 1 && len(names) > 0 && m.r.Intn(5) > 0:
		return pick(m, names)
	case sort == 2 && depth > 0:
		return m.before(at, depth, late)
	case sort == 3:
		return "(" + m.part(at, depth-1, false) + " -> " + m.part(at, depth-1, true) + ")"
	case sort == 4 || sort == 5:
		return m.operator(at, depth, late)
	case (sort == 6 || sort == 7) && len(bools) > 0:
		by := pick(m, bools)
		return "(merge " + by + " (" + m.part(spot{at.kind, at.clock + " " + by}, depth-1, false) + ") (" + m.part(spot{at.kind, at.clock + " not." + by}, depth-1, false) + "))"
	case (sort == 8 || sort == 9) && at.clock != "":
		return m.when(at, depth, late)
	case sort >= 8 && depth > 0:
		if e := m.call(at, depth); e != "" {
			return e
		}
	}
	if at.kind == api.Bool {
		return pick(m, []string{"true", "false"})
	}
	return pick(m, []string{"0", "1", "2", "3", "10", "9223372036854775807", "3037000500"})
}

func (m *maker) operator(at spot, depth int, late bool) string {
	kid := func(k api.Kind) string { return m.part(spot{k, at.clock}, depth-1, late) }
	two := func(k api.Kind, op string) string { return "(" + kid(k) + " " + op + " " + kid(k) + ")" }
	if m.r.Intn(3) == 0 {
		return "(if " + kid(api.Bool) + " then " + kid(at.kind) + " else " + kid(at.kind) + ")"
	}
	if at.kind == api.Int {
		return pick(m, []string{two(api.Int, pick(m, []string{"+", "-", "*", "/", "mod"})), "(- " + kid(api.Int) + ")"})
	}
	return pick(m, []string{two(api.Bool, pick(m, []string{"and", "or", "xor", "=", "<>"})), two(api.Int, pick(m, []string{"=", "<>", "<", "<=", ">", ">="})), "(not " + kid(api.Bool) + ")"})
}

// when makes one of what stands on the clock ahead of the last step, which often holds a value of the tick ahead.
func (m *maker) when(at spot, depth int, late bool) string {
	last := at.clock[strings.LastIndex(at.clock, " ")+1:]
	beneath := spot{at.kind, strings.TrimSuffix(at.clock, " "+last)}
	e := m.part(beneath, depth-1, late)
	if depth > 1 && m.r.Intn(2) == 0 {
		e = m.before(beneath, depth-1, late)
	}
	return "(" + e + " when " + strings.ReplaceAll(last, ".", " ") + ")"
}

// before makes a part that holds a value of the tick ahead, of any name.
func (m *maker) before(at spot, depth int, late bool) string {
	first, own := m.part(at, depth-1, false), m.own
	m.own = anyRank
	then := m.part(at, depth-1, false)
	m.own = own
	if late && m.r.Intn(3) > 0 {
		return "(pre " + then + ")"
	}
	return "(" + first + pick(m, []string{" fby ", " -> pre "}) + then + ")"
}

// call makes a call of a node ahead, if there is one of that kind.
func (m *maker) call(at spot, depth int) string {
	of := slices.DeleteFunc(slices.Clone(m.callees), func(c callee) bool { return c.out != at.kind })
	if len(of) == 0 {
		return ""
	}
	called := pick(m, of)
	var args []string
	for _, k := range called.ins {
		names := m.fit(spot{k, at.clock}, false)
		if len(names) > 0 && m.r.Intn(2) == 0 {
			args = append(args, pick(m, names))
			continue
		}
		args = append(args, m.part(spot{k, at.clock}, depth-1, false))
	}
	return called.name + "(" + strings.Join(args, ", ") + ")"
}

// node makes a node's text: its equations stand in any order. All nodes take their names from the same few.
func (m *maker) node(name string) string {
	m.names, m.bools, m.clocks, m.ranks, m.late = map[spot][]string{}, nil, map[string]string{}, map[string]int{}, map[string]int{}
	var ins, outs, locals, all []string
	var spots []spot
	next := func() string { return pick(m, []string{"a", "b"}) + strconv.Itoa(len(m.clocks)) }
	add := func(l *[]string, at spot, rank int, on string) {
		all, spots = append(all, next()), append(spots, at)
		*l = append(*l, m.declare(all[len(all)-1], at, rank)+on)
	}
	self := callee{name: name}
	for range m.r.Intn(5) {
		self.ins = append(self.ins, m.kind())
		ins = append(ins, m.declare(next(), spot{kind: self.ins[len(self.ins)-1]}, -1))
	}
	for range 1 + m.r.Intn(5)/4 {
		self.out = m.kind()
		add(&outs, spot{kind: self.out}, m.r.Intn(100), "")
	}
	for range m.r.Intn(7) {
		at, rank, on := spot{kind: m.kind()}, m.r.Intn(100), ""
		if len(m.bools) > 0 && m.r.Intn(4) > 0 {
			by, not := pick(m, m.bools), pick(m, []string{"", "not."})
			at.clock, on = m.clocks[by]+" "+not+by, " when "+strings.ReplaceAll(not, ".", " ")+by
			rank = max(rank, m.ranks[by]+1)
		}
		add(&locals, at, rank, on)
		if m.r.Intn(3) == 0 {
			m.late[all[len(all)-1]] = 1
			m.bools = slices.DeleteFunc(m.bools, func(name string) bool { return name == all[len(all)-1] })
		}
	}
	text := "node " + name + "(" + strings.Join(ins, "; ") + ") returns (" + strings.Join(outs, "; ") + "); var"
	if len(locals) > 0 {
		text += " " + strings.Join(locals, "; ")
	}
	text += "; let"
	for _, k := range m.r.Perm(len(all)) {
		m.own = m.ranks[all[k]]
		text += " " + all[k] + " = " + m.part(spots[k], 1+m.r.Intn(5), m.late[all[k]] == 1) + ";"
	}
	if len(outs) == 1 {
		m.callees = append(m.callees, self)
	}
	return text + " tel "
}

// program makes a program's text. Some nodes have the names that nodes' names have.
func (m *maker) program() string {
	m.callees = nil
	text := ""
	for k := range 1 + m.r.Intn(5) {
		text += m.node("a" + strconv.Itoa(k))
	}
	return text
}

// edges are ints at which something happens.
var edges = []int64{-9223372036854775808, -4294967296, -7, -2, -1, 0, 1, 2, 7, 3037000500, 9223372036854775807}

// rows makes rows that fit.
func (m *maker) rows(vars []syn.Var) []api.Row {
	var l []api.Row
	for range m.r.Intn(14) {
		var r api.Row
		for _, v := range vars {
			n := m.r.Int63n(2)
			if v.Kind == api.Int && m.r.Intn(8) == 0 {
				n = pick(m, edges)
			} else if v.Kind == api.Int {
				n = m.r.Int63n(20) - 8
			}
			r = append(r, n)
		}
		l = append(l, r)
	}
	return l
}
