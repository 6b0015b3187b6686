package syn

import (
	"slices"

	"escapement/api"
	"escapement/lex"
)

// expr reads an expression, which is the grammar's arrow; depth is how deep it is.
func (p *parser) expr(depth int) Expr {
	e := p.or(depth)
	if w, ok := p.between("->"); ok {
		return two(w, e, p.expr(depth+1))
	}
	return e
}

func (p *parser) or(depth int) Expr { return p.row(p.and, depth, "or", "xor") }

func (p *parser) and(depth int) Expr { return p.row(p.cmp, depth, "and") }

func (p *parser) cmp(depth int) Expr {
	e := p.add(depth)
	if w, ok := p.between("=", "<>", "<", "<=", ">", ">="); ok {
		return two(w, e, p.add(depth))
	}
	return e
}

func (p *parser) add(depth int) Expr { return p.row(p.mul, depth, "+", "-") }

func (p *parser) mul(depth int) Expr { return p.row(p.fby, depth, "*", "/", "mod") }

func (p *parser) fby(depth int) Expr {
	e := p.when(depth)
	if w, ok := p.between("fby"); ok {
		return two(w, e, p.fby(depth+1))
	}
	return e
}

func (p *parser) when(depth int) Expr {
	e := p.un(depth)
	for {
		w, ok := p.between("when")
		if !ok {
			return e
		}
		e = Expr{Op: opWhen, N: 1, At: w.At, Kids: []Expr{e}}
		if p.take("not") {
			e.N = 0
		}
		e.Name = p.name()
	}
}

func (p *parser) un(depth int) Expr {
	p.ask(depth)
	switch {
	case p.is("not"), p.is("pre"):
		w := p.part()
		return Expr{Op: w.Text, At: w.At, Kids: []Expr{p.un(depth + 1)}}
	case p.is("-"):
		w := p.part()
		return Expr{Op: opNeg, At: w.At, Kids: []Expr{p.un(depth + 1)}}
	}
	return p.prim(depth)
}

func (p *parser) prim(depth int) Expr {
	p.ask(depth)
	w := p.words[0]
	switch {
	case w.Kind == wordNumber:
		p.part()
		return Expr{Op: opInt, N: w.N, At: w.At}
	case w.Kind == wordName:
		return p.named(depth)
	case p.is("true"):
		p.part()
		return Expr{Op: opBool, N: 1, At: w.At}
	case p.is("false"):
		p.part()
		return Expr{Op: opBool, At: w.At}
	case p.is("("):
		return p.bracketed(depth)
	case p.is("if"):
		return p.choice(depth)
	case p.is("merge"):
		return p.merge(depth)
	}
	p.fail(api.ESYNTAX)
	return Expr{}
}

// named reads a var, or a call: it is a call, wherever it stands, if a ( is behind the name.
func (p *parser) named(depth int) Expr {
	w := p.part()
	if !p.take("(") {
		return Expr{Op: opVar, Name: w.Text, At: w.At}
	}
	e := Expr{Op: opCall, Name: w.Text, At: w.At}
	if !p.is(")") {
		e.Kids = append(e.Kids, p.expr(depth+1))
		for p.take(",") {
			e.Kids = append(e.Kids, p.expr(depth+1))
		}
	}
	p.need(")")
	return e
}

func (p *parser) bracketed(depth int) Expr {
	p.next()
	e := p.expr(depth + 1)
	p.need(")")
	return e
}

func (p *parser) choice(depth int) Expr {
	at := p.part().At
	first := p.expr(depth + 1)
	p.need("then")
	second := p.expr(depth + 1)
	p.need("else")
	third := p.expr(depth + 1)
	return Expr{Op: opIf, At: at, Kids: []Expr{first, second, third}}
}

func (p *parser) merge(depth int) Expr {
	e := Expr{Op: opMerge, At: p.part().At}
	e.Name = p.name()
	first := p.prim(depth + 1)
	second := p.prim(depth + 1)
	e.Kids = []Expr{first, second}
	return e
}

// ask asks whether an expression may be so deep. All sorts begin with an un or a prim, so that only these ask; they do
// so ahead of the word, because what is too deep is told even where nothing fits.
func (p *parser) ask(depth int) {
	if depth > api.MaxDepth {
		p.fail(api.ELIMIT)
	}
}

// part takes the next word, as one more part of the equation's expression.
func (p *parser) part() lex.Word {
	if p.parts == api.MaxParts {
		p.fail(api.ELIMIT)
	}
	p.parts++
	return p.next()
}

// between takes a sign or a word that stands between two (or is a when), if one of these stands next.
func (p *parser) between(ops ...string) (lex.Word, bool) {
	if !slices.Contains(ops, p.words[0].Text) {
		return lex.Word{}, false
	}
	return p.part(), true
}

// row reads one or more with such signs between them, which belong together from the left.
func (p *parser) row(one func(depth int) Expr, depth int, ops ...string) Expr {
	e := one(depth)
	for {
		w, ok := p.between(ops...)
		if !ok {
			return e
		}
		e = two(w, e, one(depth))
	}
}

// two is what a sign or word makes of the two that it stands between.
func two(w lex.Word, first, second Expr) Expr {
	return Expr{Op: w.Text, At: w.At, Kids: []Expr{first, second}}
}
