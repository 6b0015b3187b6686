package emit_test

import (
	"sort"
	"strconv"
	"strings"
	"testing"

	"escapement/api"
	"escapement/code"
	"escapement/emit"
	"escapement/syn"
)

func named(name string) syn.Expr { return syn.Expr{Op: "var", Name: name} }

func number(n int64) syn.Expr { return syn.Expr{Op: "int", N: n} }

func truth(n int64) syn.Expr { return syn.Expr{Op: "bool", N: n} }

func merged(by string, left, right syn.Expr) syn.Expr {
	return syn.Expr{Op: "merge", Name: by, Kids: []syn.Expr{left, right}}
}

func when(e syn.Expr, by string) syn.Expr {
	return syn.Expr{Op: "when", Name: by, N: 1, Kids: []syn.Expr{e}}
}

// bit is the name of one of many inputs.
func bit(k int) string { return "c" + strconv.Itoa(k%(api.MaxVars-2)) }

// wide is a node with as many inputs as may be, two outputs, and so many locals, each with a state on a clock of its own,
// which hangs on the one ahead: of 400 parts in all, of that sort, as many as there is room for.
func wide(locals int, part func(k int) syn.Expr) syn.Node {
	n := syn.Node{Name: "f", Out: []syn.Var{{Name: "y", Kind: api.Int}, {Name: "z", Kind: api.Int}}}
	for k := range api.MaxVars - 2 {
		n.In = append(n.In, syn.Var{Name: bit(k), Kind: api.Bool})
	}
	on := bit(0)
	for k := range locals {
		name := "1." + strconv.Itoa(k)
		n.Locals = append(n.Locals, syn.Var{Name: name, Kind: api.Bool, On: on, Not: k%2 == 0})
		n.Eqs = append(n.Eqs, syn.Eq{Name: name, E: one("->", truth(1), truth(0))})
		on = name
	}
	y, z := number(0), number(0)
	left := 400 - locals*3 - 2
	for k := 0; countParts(part(k))+1 <= left; k++ {
		left -= countParts(part(k)) + 1
		y, z = z, one("+", y, part(k))
	}
	for ; left > 0; left-- {
		y = one("neg", y)
	}
	n.Eqs = append(n.Eqs, syn.Eq{Name: "y", E: y}, syn.Eq{Name: "z", E: z})
	return n
}

// bits are rows of a node whose inputs are bools, which turn at different ticks.
func bits(n syn.Node, count int) []api.Row {
	var l []api.Row
	for tick := range count {
		var r api.Row
		for k := range n.In {
			r = append(r, int64((tick+k)>>(k%3)&1))
		}
		l = append(l, r)
	}
	return l
}

// P15.1: never ELIMIT of at most 60 equations of at most 400 parts.
func TestNeverTooMuch(t *testing.T) {
	before := func(e syn.Expr) syn.Expr { return one("->", number(7), one("pre", e)) }
	for name, part := range map[string]func(k int) syn.Expr{
		"number": func(k int) syn.Expr { return number(int64(k)) },
		"neg":    func(k int) syn.Expr { return one("neg", number(int64(k))) },
		"->":     func(k int) syn.Expr { return one("->", number(1), number(2)) },
		"fby":    func(k int) syn.Expr { return one("fby", number(1), number(2)) },
		"many fbys": func(k int) syn.Expr {
			return one("fby", number(1), one("fby", number(2), one("fby", number(3), number(4))))
		},
		"pre": func(k int) syn.Expr { return before(before(before(number(5)))) },
		"if":  func(k int) syn.Expr { return one("if", named(bit(k)), number(1), number(2)) },
		"<>":  func(k int) syn.Expr { return one("if", one("<>", truth(1), truth(0)), number(1), number(2)) },
		"many <>": func(k int) syn.Expr {
			return one("if", one("<>", one("<>", one("<>", truth(1), truth(0)), one(">=", number(3), number(4))), named(bit(k))), number(1), number(2))
		},
		"merge": func(k int) syn.Expr { return merged(bit(k), number(1), number(2)) },
		"merge of ->": func(k int) syn.Expr {
			return merged(bit(k), one("->", number(1), number(2)), one("->", number(3), number(4)))
		},
		"merge of fby": func(k int) syn.Expr {
			return merged(bit(k), one("fby", number(1), number(2)), one("fby", number(3), number(4)))
		},
		"merge of pre":    func(k int) syn.Expr { return merged(bit(k), before(number(1)), before(number(2))) },
		"one state a way": func(k int) syn.Expr { return merged(bit(k), one("fby", number(1), number(2)), number(3)) },
		"when": func(k int) syn.Expr {
			return merged(bit(k), when(one("fby", number(1), number(2)), bit(k)), one("->", number(3), number(4)))
		},
	} {
		for _, locals := range []int{0, 20, 58} {
			n := wide(locals, part)
			if eqs, parts := size(n); eqs != locals+2 || parts != 400 {
				t.Fatalf("of %s: %d equations of %d parts", name, eqs, parts)
			}
			in := bits(n, 9)
			if !holdMeans(t, n, in, meantBy(t, n, in)) {
				t.Errorf("P15.1: of %s there is no program", name)
			}
		}
	}
	for count := range 61 {
		n := syn.Node{Name: "f", In: []syn.Var{{Name: "x", Kind: api.Int}}, Out: []syn.Var{{Name: "y", Kind: api.Int}}}
		e := named("x")
		for k := 1; k < count; k++ {
			n.Locals = append(n.Locals, syn.Var{Name: strconv.Itoa(k), Kind: api.Int})
			n.Eqs = append(n.Eqs, syn.Eq{Name: strconv.Itoa(k), E: e})
			e = one("+", named(strconv.Itoa(k)), one("fby", number(1), named("x")))
		}
		n.Eqs = append(n.Eqs, syn.Eq{Name: "y", E: e})
		holdMeans(t, n, rows("3;4"), meantBy(t, n, rows("3;4")))
	}
}

// growing are nodes that grow, part by part.
func growing() map[string]func(count int) syn.Node {
	node := func(e syn.Expr) syn.Node {
		return syn.Node{Name: "f", In: []syn.Var{{Name: "x", Kind: api.Int}, {Name: "c", Kind: api.Bool}}, Out: []syn.Var{{Name: "y", Kind: api.Int}}, Eqs: []syn.Eq{{Name: "y", E: e}}}
	}
	x := named("x")
	repeated := func(next func(e syn.Expr, k int) syn.Expr) func(count int) syn.Node {
		return func(count int) syn.Node {
			e := x
			for k := range count {
				e = next(e, k)
			}
			return node(e)
		}
	}
	return map[string]func(count int) syn.Node{
		"neg":   repeated(func(e syn.Expr, k int) syn.Expr { return one("neg", e) }),
		"*":     repeated(func(e syn.Expr, k int) syn.Expr { return one("*", e, x) }),
		"+":     repeated(func(e syn.Expr, k int) syn.Expr { return one("+", number(int64(k)), e) }),
		"if":    repeated(func(e syn.Expr, k int) syn.Expr { return one("if", named("c"), x, e) }),
		"fby":   repeated(func(e syn.Expr, k int) syn.Expr { return one("fby", x, e) }),
		"->":    repeated(func(e syn.Expr, k int) syn.Expr { return one("->", e, number(int64(k))) }),
		"pre":   repeated(func(e syn.Expr, k int) syn.Expr { return one("->", x, one("pre", e)) }),
		"merge": repeated(func(e syn.Expr, k int) syn.Expr { return merged("c", when(e, "c"), number(int64(k))) }),
		"equations": func(count int) syn.Node {
			n := node(x)
			for k := range count {
				name := "1." + strconv.Itoa(k)
				n.Locals = append(n.Locals, syn.Var{Name: name, Kind: api.Int})
				n.Eqs = append(n.Eqs, syn.Eq{Name: name, E: n.Eqs[0].E})
				n.Eqs[0].E = one("-", named(name), x)
			}
			return n
		},
	}
}

// P15.1: ELIMIT of what would need more than there may be, and of no less: what is there of the greatest node that has a
// program leaves no room for what the next one would need more.
func TestLimits(t *testing.T) {
	uses := func(p code.Program) []int { return []int{len(p.Slots), len(p.Mems), len(p.Code)} }
	limits := []int{api.MaxSlots, api.MaxSlots, api.MaxCode}
	for name, node := range growing() {
		most := sort.Search(1<<13, func(count int) bool { _, ok := emitted(t, node(count+1)); return !ok })
		if most == 1<<13 {
			continue // whoever can do with so little may
		}
		if most < 100 {
			t.Fatalf("P15.1: of %s there is no program of %d", name, most+1)
		}
		var last [][]int // of the greatest ones
		for count := most - 6; count <= most; count++ {
			p, _ := emitted(t, node(count))
			last = append(last, uses(p))
		}
		isFull := false
		for k, limit := range limits {
			more := 0
			for at := range last[1:] {
				more = max(more, last[at+1][k]-last[at][k])
			}
			isFull = isFull || last[6][k]+more > limit
		}
		if !isFull {
			t.Errorf("P15.1: of %s, ELIMIT behind these slots, memories, instructions: %v", name, last)
		}
		n := node(most)
		if len(n.Eqs) > api.MaxEqs {
			n = node(api.MaxEqs - 1) // as mean takes no more
		}
		in := rows("5 1;6 0;7 1;8 1")
		holdMeans(t, n, in, meantBy(t, n, in))
	}
}

// refused holds ELIMIT.
func refused(t *testing.T, what string, n syn.Node) {
	t.Helper()
	if p, e := emit.Emit(n); e != api.ELIMIT || !isZero(p) {
		t.Errorf("P15.1, R2: Emit of %s: %v, %d instructions", what, e, len(p.Code))
	}
}

// P15.1, R1: far more than there may be, as flat tells it of texts.
func TestFarTooMuch(t *testing.T) {
	const head = "node f(x: int) returns (y: int); let y = "
	refused(t, "many fbys", flatted(t, "node g(x: int) returns (y: int); let y = x"+strings.Repeat(" + (0 fby x)", 74)+"; tel node h(x: int) returns (y: int); let y = g(x) + g(x + 1); tel "+head+"h(x) - h(2) - h(3) - h(4) - h(5); tel"))
	text := "node g(x: int) returns (y: int); var a, b, d, e, h, i, j, k: int; let "
	for _, name := range strings.Fields("a b d e h i j k y") {
		text += name + " = x" + strings.Repeat(" * x", 149) + "; "
	}
	refused(t, "many equations", flatted(t, text+"tel "+head+"0"+strings.Repeat(" + g(x)", 75)+"; tel"))
	text = "node a0(x: int) returns (y: int); let y = x * x; tel "
	for k := 1; k < 9; k++ {
		text += "node a" + strconv.Itoa(k) + "(x: int) returns (y: int); let y = 3 fby (a" + strconv.Itoa(k-1) + "(x + 1) - a" + strconv.Itoa(k-1) + "(x * 2)); tel "
	}
	refused(t, "calls within calls", flatted(t, text+head+"a8(x); tel"))
}

// R1: parts nested 2^16 deep, and names that lean on one another in as long a row.
func TestDeep(t *testing.T) {
	const count = 1<<16 - 2
	for name, node := range growing() {
		if name != "equations" {
			refused(t, name+" so deep", node(count))
		}
	}
	n := growing()["equations"](count)
	refused(t, "so many equations", n)
	for k := range n.Eqs[1:] {
		n.Eqs[k].E = named(n.Eqs[k+1].Name)
	}
	n.Eqs[count].E = named("x")
	if p, ok := emitted(t, n); ok && written(stepped(t, p, rows("5 1;6 0"))) != "5;6" {
		t.Errorf("P15.1: a long row of names means something else")
	}
}
