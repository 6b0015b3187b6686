package syn

import (
	"escapement/api"
	"escapement/lex"
)

// The kinds of words that lex tells.
const (
	wordEnd    = 0
	wordName   = 1
	wordNumber = 3
)

// parser reads words, one behind the other. Behind its first fault only the text's end is left, which fits nothing: so
// all that reads comes to its end by itself, and what it made is dropped.
type parser struct {
	words []lex.Word // those left; the text's end is never taken
	fault api.Fault  // the first one
	names int        // how many the node that is read has declared
	parts int        // how many the equation that is read has
}

// fail tells a fault at the next word.
func (p *parser) fail(err api.Errno) {
	if p.fault.Err != api.OK {
		return
	}
	p.fault = api.Fault{Err: err, At: p.words[0].At}
	p.words = p.words[len(p.words)-1:]
}

// next takes a word.
func (p *parser) next() lex.Word {
	w := p.words[0]
	if w.Kind != wordEnd {
		p.words = p.words[1:]
	}
	return w
}

// is tells whether that is the next word. (No two sorts of words have a text in common: so it alone is asked.)
func (p *parser) is(text string) bool { return p.words[0].Text == text }

func (p *parser) isName() bool { return p.words[0].Kind == wordName }

// take takes the next word, if it is that.
func (p *parser) take(text string) bool {
	if !p.is(text) {
		return false
	}
	p.next()
	return true
}

// need takes the next word, which must be that.
func (p *parser) need(text string) {
	if !p.take(text) {
		p.fail(api.ESYNTAX)
	}
}

// name takes a name, which must stand next.
func (p *parser) name() string {
	if !p.isName() {
		p.fail(api.ESYNTAX)
	}
	return p.next().Text
}

func (p *parser) program() []Node {
	l := []Node{p.node()}
	for p.words[0].Kind != wordEnd {
		if p.is("node") && len(l) == api.MaxNodes {
			p.fail(api.ELIMIT)
		}
		l = append(l, p.node())
	}
	return l
}

func (p *parser) node() Node {
	p.names = 0
	n := Node{At: p.words[0].At}
	p.need("node")
	n.Name = p.name()
	n.In = p.decls()
	p.need("returns")
	n.Out = p.decls()
	p.need(";")
	if p.take("var") {
		n.Locals = p.locals()
	}
	p.need("let")
	for p.isName() {
		n.Eqs = append(n.Eqs, p.eq())
	}
	p.need("tel")
	p.take(";")
	return n
}

// decls reads inputs or outputs, with the brackets round them.
func (p *parser) decls() []Var {
	var l []Var
	p.need("(")
	if !p.is(")") {
		l = p.decl()
		for p.take(";") {
			l = append(l, p.decl()...)
		}
	}
	p.need(")")
	return l
}

// locals reads what stands behind var, with the last ; of it.
func (p *parser) locals() []Var {
	if p.take(";") {
		return nil
	}
	l := p.local()
	p.need(";")
	for p.isName() {
		l = append(l, p.local()...)
		p.need(";")
	}
	return l
}

func (p *parser) local() []Var {
	l := p.decl()
	if !p.take("when") {
		return l
	}
	not := p.take("not")
	on := p.name()
	for i := range l {
		l[i].On, l[i].Not = on, not
	}
	return l
}

func (p *parser) decl() []Var {
	l := []Var{p.declared()}
	for p.take(",") {
		l = append(l, p.declared())
	}
	p.need(":")
	kind := p.kind()
	for i := range l {
		l[i].Kind = kind
	}
	return l
}

// declared reads one name of a declaration, whose kind is not known yet.
func (p *parser) declared() Var {
	if p.isName() && p.names == api.MaxVars {
		p.fail(api.ELIMIT)
	}
	p.names++
	at := p.words[0].At
	return Var{Name: p.name(), At: at}
}

func (p *parser) kind() api.Kind {
	switch {
	case p.take("bool"):
		return api.Bool
	case p.take("int"):
		return api.Int
	}
	p.fail(api.ESYNTAX)
	return api.None
}

func (p *parser) eq() Eq {
	p.parts = 0
	e := Eq{At: p.words[0].At}
	e.Name = p.name()
	p.need("=")
	e.E = p.expr(1)
	p.need(";")
	return e
}
