package mean_test

import (
	"math/big"
	"slices"

	"escapement/api"
	"escapement/clk"
	"escapement/syn"
)

// place is a node that ticks somewhere, by the chapter's words gone through slowly: nothing is kept from tick to tick, each
// value is asked of the ticks that were. (What was answered is kept, lest it be asked again and again.)
type place struct {
	l      []syn.Node // those ahead
	n      syn.Node
	input  func(k, t int) int64
	values map[asked]int64
	clocks map[*syn.Expr][]clk.Step
	places map[*syn.Expr]*place
	seen   map[string]int
}

type asked struct {
	e    *syn.Expr
	name string
	t    int
}

func slowPlace(l []syn.Node, node int, seen map[string]int, input func(k, t int) int64) *place {
	return &place{l: l[:node], n: l[node], input: input, values: map[asked]int64{}, clocks: map[*syn.Expr][]clk.Step{}, places: map[*syn.Expr]*place{}, seen: seen}
}

// kept asks but once.
func (p *place) kept(a asked, ask func() int64) int64 {
	if v, ok := p.values[a]; ok {
		return v
	}
	v := ask()
	p.values[a] = v
	return v
}

// isThere tells whether a clock is at a tick.
func (p *place) isThere(c []clk.Step, t int) bool {
	for _, step := range c {
		if (p.name(step.Name, t) == 1) == step.Not {
			return false
		}
	}
	return true
}

// were are a clock's ticks ahead of that one.
func (p *place) were(c []clk.Step, t int) []int {
	var l []int
	for k := range t {
		if p.isThere(c, k) {
			l = append(l, k)
		}
	}
	return l
}

// name is a name's value.
func (p *place) name(name string, t int) int64 {
	return p.kept(asked{name: name, t: t}, func() int64 {
		if k := slices.IndexFunc(p.n.In, func(v syn.Var) bool { return v.Name == name }); k >= 0 {
			return p.input(k, t)
		}
		k := slices.IndexFunc(p.n.Eqs, func(q syn.Eq) bool { return q.Name == name })
		return p.value(&p.n.Eqs[k].E, clk.Of(p.n, name), t)
	})
}

// value is an expression's value at a tick of its clock; around: that of what it stands in.
func (p *place) value(e *syn.Expr, around []clk.Step, t int) int64 {
	return p.kept(asked{e: e, t: t}, func() int64 {
		if _, ok := p.clocks[e]; !ok {
			c, any, _ := clk.Expr(p.n, *e)
			if any {
				c = around
			}
			p.clocks[e] = c
		}
		return p.part(e, p.clocks[e], t)
	})
}

// part is what an expression with that clock is.
func (p *place) part(e *syn.Expr, c []clk.Step, t int) int64 {
	kid := func(k, t int) int64 { return p.value(&e.Kids[k], c, t) }
	were := func() []int { return p.were(c, t) }
	switch e.Op {
	case "int", "bool":
		return e.N
	case "var":
		return p.name(e.Name, t)
	case "pre":
		if l := were(); len(l) > 0 {
			return kid(0, l[len(l)-1])
		}
		return 0
	case "->":
		if len(were()) == 0 {
			return kid(0, t)
		}
		return kid(1, t)
	case "fby":
		if l := were(); len(l) > 0 {
			return kid(1, l[len(l)-1])
		}
		return kid(0, t)
	case "when":
		return p.value(&e.Kids[0], clk.Of(p.n, e.Name), t)
	case "merge":
		by := p.name(e.Name, t)
		own := clk.Of(p.n, e.Name)
		return p.value(&e.Kids[1-by], append(slices.Clone(own), clk.Step{Name: e.Name, Not: by == 0}), t)
	case "if":
		if kid(0, t) == 1 {
			return kid(1, t)
		}
		return kid(2, t)
	case "call":
		return p.call(e, c, t)
	case "not":
		return 1 - kid(0, t)
	case "neg":
		return slowOf("-", 0, kid(0, t))
	}
	return slowOf(e.Op, kid(0, t), kid(1, t))
}

// call is the output of the node that is called, at as many of its ticks as there were.
func (p *place) call(e *syn.Expr, c []clk.Step, t int) int64 {
	called, ok := p.places[e]
	if !ok {
		node := slices.IndexFunc(p.l, func(n syn.Node) bool { return n.Name == e.Name })
		called = slowPlace(p.l, node, p.seen, func(k, i int) int64 {
			at := p.at(c, i)
			return p.value(&e.Kids[k], c, at)
		})
		p.places[e] = called
	}
	tick := len(p.were(c, t))
	if tick < t {
		p.seen["call that missed ticks"]++
	}
	return called.name(called.n.Out[0].Name, tick)
}

// at is a clock's tick of that number, which there must be.
func (p *place) at(c []clk.Step, number int) int {
	t := 0
	for k := 0; ; t++ {
		if p.isThere(c, t) {
			if k == number {
				return t
			}
			k++
		}
	}
}

// slowOf is an operator's value, by numbers of any size.
func slowOf(op string, a, b int64) int64 {
	x, y, z := big.NewInt(a), big.NewInt(b), new(big.Int)
	is := false
	switch op {
	case "+":
		z.Add(x, y)
	case "-":
		z.Sub(x, y)
	case "*":
		z.Mul(x, y)
	case "/":
		if b != 0 {
			z.Quo(x, y)
		}
	case "mod":
		if b != 0 {
			z.Rem(x, y)
		}
	case "=":
		is = x.Cmp(y) == 0
	case "<>":
		is = x.Cmp(y) != 0
	case "<":
		is = x.Cmp(y) < 0
	case "<=":
		is = x.Cmp(y) <= 0
	case ">":
		is = x.Cmp(y) > 0
	case ">=":
		is = x.Cmp(y) >= 0
	case "and":
		is = a+b == 2
	case "or":
		is = a+b > 0
	case "xor":
		is = a+b == 1
	}
	if is {
		return 1
	}
	return wrapped(z)
}

// wrapped is a number as 64 bits hold it.
func wrapped(z *big.Int) int64 {
	whole, half := new(big.Int).Lsh(big.NewInt(1), 64), new(big.Int).Lsh(big.NewInt(1), 63)
	z.Mod(z.Add(z, half), whole)
	return z.Sub(z, half).Int64()
}

// slowCount is how many equations a node has, with those of its calls, as far as the limit.
func slowCount(l []syn.Node, node int) int {
	sum := 0
	var calls func(e syn.Expr)
	calls = func(e syn.Expr) {
		if e.Op == "call" && sum <= api.MaxEqs {
			sum += slowCount(l, slices.IndexFunc(l, func(n syn.Node) bool { return n.Name == e.Name }))
		}
		for _, k := range e.Kids {
			calls(k)
		}
	}
	for _, q := range l[node].Eqs {
		sum++
		calls(q.E)
	}
	return sum
}

// slowRun is what a program means. Rows fit.
func slowRun(l []syn.Node, in []api.Row, seen map[string]int) ([]api.Row, api.Errno) {
	main := len(l) - 1
	if slowCount(l, main) > api.MaxEqs {
		return nil, api.ELIMIT
	}
	p := slowPlace(l, main, seen, func(k, t int) int64 { return in[t][k] })
	var out []api.Row
	for t := range in {
		var r api.Row
		for _, v := range l[main].Out {
			r = append(r, p.name(v.Name, t))
		}
		out = append(out, r)
	}
	return out, api.OK
}
