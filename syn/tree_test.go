package syn_test

import (
	"math/rand"
	"strconv"
	"strings"
	"testing"

	"escapement/api"
	"escapement/syn"
)

// How close an expression binds: what stands in a place where a closer one is wanted needs brackets.
const (
	asArrow = iota
	asOr
	asAnd
	asCmp
	asAdd
	asMul
	asFby
	asWhen
	asUn
	asPrim
)

func closeness(op string) int {
	switch op {
	case "->":
		return asArrow
	case "or", "xor":
		return asOr
	case "and":
		return asAnd
	case "=", "<>", "<", "<=", ">", ">=":
		return asCmp
	case "+", "-":
		return asAdd
	case "*", "/", "mod":
		return asMul
	case "fby":
		return asFby
	case "when":
		return asWhen
	case "not", "neg", "pre":
		return asUn
	}
	return asPrim
}

// pen writes trees with few brackets, and notes what the limits ask.
type pen struct {
	r     *rand.Rand
	text  strings.Builder
	deep  int   // where the first expression is that is too deep
	parts []int // where the parts are
}

const nowhere = 1 << 30

// say writes a word, and tells where it stands.
func (p *pen) say(word string) int {
	gaps := []string{" ", " ", " ", "\n", "  ", "\t", " -- if ( x\n"}
	p.text.WriteString(gaps[p.r.Intn(len(gaps))])
	at := p.text.Len()
	p.text.WriteString(word)
	return at
}

// part writes a word that is a part.
func (p *pen) part(word string) int {
	at := p.say(word)
	p.parts = append(p.parts, at)
	return at
}

// begins notes that an expression of that depth begins there.
func (p *pen) begins(depth, at int) {
	if depth > api.MaxDepth {
		p.deep = min(p.deep, at)
	}
}

// expr writes an expression, where one that binds so close is wanted, and fills in where it stands. It tells where its
// first word is. With open something may follow that an if would take for its own.
func (p *pen) expr(e *syn.Expr, closest, depth int, open bool) int {
	if closeness(e.Op) < closest || e.Op == "if" && open || p.r.Intn(20) == 0 {
		at := p.say("(")
		p.begins(depth, at)
		p.expr(e, asArrow, depth+1, false)
		p.say(")")
		return at
	}
	at := p.bare(e, depth, open)
	p.begins(depth, at)
	return at
}

// bare writes an expression without brackets round it.
func (p *pen) bare(e *syn.Expr, depth int, open bool) int {
	switch c := closeness(e.Op); c {
	case asPrim:
		return p.prim(e, depth, open)
	case asUn:
		e.At = p.part(map[string]string{"not": "not", "neg": "-", "pre": "pre"}[e.Op])
		p.expr(&e.Kids[0], asUn, depth+1, open)
		return e.At
	case asWhen:
		at := p.expr(&e.Kids[0], asWhen, depth, true)
		e.At = p.part("when")
		if e.N == 0 {
			p.say("not")
		}
		p.say(e.Name)
		return at
	case asArrow, asFby:
		at := p.expr(&e.Kids[0], c+1, depth, true)
		e.At = p.part(e.Op)
		p.expr(&e.Kids[1], c, depth+1, open)
		return at
	case asCmp:
		at := p.expr(&e.Kids[0], c+1, depth, true)
		e.At = p.part(e.Op)
		p.expr(&e.Kids[1], c+1, depth, open)
		return at
	default:
		at := p.expr(&e.Kids[0], c, depth, true)
		e.At = p.part(e.Op)
		p.expr(&e.Kids[1], c+1, depth, open)
		return at
	}
}

// prim writes what needs no brackets in most places.
func (p *pen) prim(e *syn.Expr, depth int, open bool) int {
	switch e.Op {
	case "int":
		e.At = p.part(strconv.FormatInt(e.N, 10))
	case "bool":
		e.At = p.part([]string{"false", "true"}[e.N])
	case "var":
		e.At = p.part(e.Name)
	case "call":
		e.At = p.part(e.Name)
		p.say("(")
		for i := range e.Kids {
			if i > 0 {
				p.say(",")
			}
			p.expr(&e.Kids[i], asArrow, depth+1, false)
		}
		p.say(")")
	case "if":
		e.At = p.part("if")
		p.expr(&e.Kids[0], asArrow, depth+1, false)
		p.say("then")
		p.expr(&e.Kids[1], asArrow, depth+1, false)
		p.say("else")
		p.expr(&e.Kids[2], asArrow, depth+1, open)
	case "merge":
		e.At = p.part("merge")
		p.say(e.Name)
		p.first(&e.Kids[0], depth+1)
		p.expr(&e.Kids[1], asPrim, depth+1, open)
	}
	return e.At
}

// endsInName tells whether a prim's last word may be a var's name.
func endsInName(e syn.Expr) bool {
	return e.Op == "var" || e.Op == "merge" && endsInName(e.Kids[1])
}

// first writes merge's first kid: in brackets, if a ( behind it would make it another.
func (p *pen) first(e *syn.Expr, depth int) {
	if !endsInName(*e) {
		p.expr(e, asPrim, depth, true)
		return
	}
	p.begins(depth, p.say("("))
	p.expr(e, asArrow, depth+1, false)
	p.say(")")
}

// tree makes an expression of at most so many parts, some of them deep.
func tree(r *rand.Rand, parts int) syn.Expr {
	name := func() string { return []string{"a", "b1", "c_", "abcdefghijklmnopqrstuvwx"}[r.Intn(4)] }
	two := strings.Fields("+ - * / mod = <> < <= > >= and or xor -> fby -> fby")
	if parts <= 1 {
		return []syn.Expr{{Op: "int", N: r.Int63()}, {Op: "int", N: r.Int63n(3)}, {Op: "bool", N: r.Int63n(2)}, {Op: "var", Name: name()}, {Op: "call", Name: name()}}[r.Intn(5)]
	}
	kids := func(n int) []syn.Expr {
		left, l := parts-1, make([]syn.Expr, n)
		for _, i := range r.Perm(n) {
			share := left
			if r.Intn(4) == 0 {
				share = r.Intn(left + 1)
			}
			l[i] = tree(r, share)
			left -= share
		}
		return l
	}
	switch r.Intn(12) {
	case 0:
		return syn.Expr{Op: "not", Kids: kids(1)}
	case 1:
		return syn.Expr{Op: "neg", Kids: kids(1)}
	case 2:
		return syn.Expr{Op: "pre", Kids: kids(1)}
	case 3:
		return syn.Expr{Op: "when", Name: name(), N: r.Int63n(2), Kids: kids(1)}
	case 4:
		return syn.Expr{Op: "if", Kids: kids(3)}
	case 5:
		return syn.Expr{Op: "merge", Name: name(), Kids: kids(2)}
	case 6:
		return syn.Expr{Op: "call", Name: name(), Kids: kids(1 + r.Intn(4))}
	}
	return syn.Expr{Op: two[r.Intn(len(two))], Kids: kids(2)}
}

// wide makes an expression of so many parts, in which few stand deep.
func wide(r *rand.Rand, parts int) syn.Expr {
	ops := strings.Fields([]string{"+ -", "* / mod", "and", "or xor", "when"}[r.Intn(5)])
	e := tree(r, 3)
	for n := 3; n < parts; n += 4 {
		e = syn.Expr{Op: ops[r.Intn(len(ops))], Kids: []syn.Expr{e, tree(r, r.Intn(5))}}
		if e.Op == "when" {
			e.Name, e.Kids = "c", e.Kids[:1]
		}
	}
	return e
}

// P5.1, P5.2, P5.3: trees of all sorts, written with few brackets, are read as they were; those that are too great are refused where the first limit is.
func TestParseReadsWhatWasWritten(t *testing.T) {
	r := rand.New(rand.NewSource(51))
	var read, deep, many, long, back int
	for range 10000 {
		if t.Failed() {
			return
		}
		e := tree(r, 1+r.Intn([]int{4, 20, 60, 400, 1000}[r.Intn(5)]))
		if r.Intn(10) == 0 {
			e = wide(r, []int{100, 350, 500, 4000}[r.Intn(4)])
		}
		p := pen{r: r, deep: nowhere}
		p.text.WriteString(ahead)
		p.expr(&e, asArrow, 1, false)
		p.say(";")
		p.say("tel")
		text := p.text.String()
		tooMany := nowhere
		if len(p.parts) > api.MaxParts {
			tooMany = p.parts[api.MaxParts]
		}
		switch {
		case len(text) > api.MaxText:
			long++
			checkFault(t, "P5.2", text, api.ELIMIT, len(text))
			continue
		case tooMany < p.deep:
			many++
			checkFault(t, "P5.2", text, api.ELIMIT, tooMany)
			continue
		case p.deep < nowhere:
			deep++
			checkFault(t, "P5.2", text, api.ELIMIT, p.deep)
			continue
		}
		read++
		l := parse(t, "P5.1", text)
		if got, want := dump(l[0].Eqs[0].E), dump(e); got != want {
			t.Errorf("P5.1: Parse(%q): %s, want %s", text, got, want)
		}
		if checkBack(t, l) {
			back++
		}
	}
	if read < 5000 || deep < 1000 || many < 100 || long < 10 || back < 4000 || back == read {
		t.Errorf("of the trees %d were read, %d too deep, %d of too many parts, %d too long, %d read again", read, deep, many, long, back)
	}
}

// vars makes declarations, and writes them.
func (p *pen) vars(n int, local bool) []syn.Var {
	var l []syn.Var
	for len(l) < n {
		if len(l) > 0 {
			p.say(";")
		}
		var v syn.Var
		begun := len(l)
		for range 1 + p.r.Intn(3) {
			if len(l) > begun {
				p.say(",")
			}
			v.Name = "v" + strconv.Itoa(p.r.Intn(1000))
			v.At = p.say(v.Name)
			l = append(l, v)
		}
		p.say(":")
		kind := api.Kind(1 + p.r.Intn(2))
		p.say([]string{"none", "bool", "int"}[kind])
		on, not := "", false
		if local && p.r.Intn(2) == 0 {
			p.say("when")
			if not = p.r.Intn(2) == 0; not {
				p.say("not")
			}
			on = "w" + strconv.Itoa(p.r.Intn(1000))
			p.say(on)
		}
		for i := range l[begun:] {
			v := &l[begun+i]
			v.Kind, v.On, v.Not = kind, on, not
		}
	}
	return l
}

// node makes a node, and writes it.
func (p *pen) node() syn.Node {
	n := syn.Node{At: p.say("node"), Name: "f" + strconv.Itoa(p.r.Intn(1000))}
	p.say(n.Name)
	p.say("(")
	n.In = p.vars(p.r.Intn(4), false)
	p.say(")")
	p.say("returns")
	p.say("(")
	n.Out = p.vars(p.r.Intn(4), false)
	p.say(")")
	p.say(";")
	if p.r.Intn(2) == 0 {
		p.say("var")
		n.Locals = p.vars(p.r.Intn(5), true)
		p.say(";")
	}
	p.say("let")
	for range p.r.Intn(4) {
		e := syn.Eq{Name: "e" + strconv.Itoa(p.r.Intn(1000)), E: tree(p.r, 1+p.r.Intn(8))}
		e.At = p.say(e.Name)
		p.say("=")
		p.expr(&e.E, asArrow, 1, false)
		p.say(";")
		n.Eqs = append(n.Eqs, e)
	}
	p.say("tel")
	if p.r.Intn(2) == 0 {
		p.say(";")
	}
	return n
}

// P5.1, P5.2, P5.3: whole programs.
func TestParseReadsWholePrograms(t *testing.T) {
	r := rand.New(rand.NewSource(52))
	back := 0
	for range 3000 {
		if t.Failed() {
			return
		}
		p := pen{r: r, deep: nowhere}
		var want []syn.Node
		for range 1 + r.Intn(5) {
			want = append(want, p.node())
		}
		l := parse(t, "P5.2", p.text.String())
		if got := dumpAll(l); got != dumpAll(want) {
			t.Errorf("P5.2: Parse(%q): %s\nwant %s", p.text.String(), got, dumpAll(want))
		}
		if !syn.Same(l, want) {
			t.Errorf("P5.2: Same of what was written and read: %s", dumpAll(want))
		}
		if checkBack(t, l) {
			back++
		}
	}
	if back < 2990 {
		t.Errorf("%d programs were read again", back)
	}
}
