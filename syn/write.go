package syn

import (
	"strconv"
	"strings"

	"escapement/api"
)

func writeNode(b *strings.Builder, n Node) {
	say(b, "node ", n.Name, "(")
	writeVars(b, n.In)
	say(b, ") returns (")
	writeVars(b, n.Out)
	say(b, ");\n")
	if len(n.Locals) > 0 {
		say(b, "var ")
		writeVars(b, n.Locals)
		say(b, ";\n")
	}
	say(b, "let\n")
	for _, e := range n.Eqs {
		say(b, "  ", e.Name, " = ")
		writeExpr(b, e.E)
		say(b, ";\n")
	}
	say(b, "tel;\n")
}

func writeVars(b *strings.Builder, l []Var) {
	for i, v := range l {
		if i > 0 {
			say(b, "; ")
		}
		say(b, v.Name, ": ", kindName(v.Kind))
		if v.On != "" {
			say(b, whenWord(v.Not), v.On)
		}
	}
}

func kindName(k api.Kind) string {
	switch k {
	case api.Bool:
		return "bool"
	case api.Int:
		return "int"
	}
	return "none"
}

// whenWord is what stands ahead of the name that something hangs on.
func whenWord(not bool) string {
	if not {
		return " when not "
	}
	return " when "
}

// writeExpr writes an expression. One of no Op that Parse tells is written as nothing; so is a kid that is not there.
func writeExpr(b *strings.Builder, e Expr) {
	switch e.Op {
	case opInt:
		say(b, strconv.FormatInt(e.N, 10))
	case opBool:
		say(b, strconv.FormatBool(e.N != 0))
	case opVar:
		say(b, e.Name)
	case opCall:
		writeCall(b, e)
	case "not", "pre":
		writeAhead(b, e.Op, e)
	case opNeg:
		writeAhead(b, "-", e)
	case "+", "-", "*", "/", "mod", "=", "<>", "<", "<=", ">", ">=", "and", "or", "xor", "->", "fby":
		say(b, "(")
		writeExpr(b, kid(e, 0))
		say(b, " ", e.Op, " ")
		writeExpr(b, kid(e, 1))
		say(b, ")")
	case opWhen:
		say(b, "(")
		writeExpr(b, kid(e, 0))
		say(b, whenWord(e.N == 0), e.Name, ")")
	case opIf:
		say(b, "(if ")
		writeExpr(b, kid(e, 0))
		say(b, " then ")
		writeExpr(b, kid(e, 1))
		say(b, " else ")
		writeExpr(b, kid(e, 2))
		say(b, ")")
	case opMerge:
		say(b, "(merge ", e.Name, " ")
		writePrim(b, kid(e, 0))
		say(b, " ")
		writePrim(b, kid(e, 1))
		say(b, ")")
	}
}

func writeCall(b *strings.Builder, e Expr) {
	say(b, e.Name, "(")
	for i, k := range e.Kids {
		if i > 0 {
			say(b, ", ")
		}
		writeExpr(b, k)
	}
	say(b, ")")
}

// writeAhead writes a word and the one kid behind it.
func writeAhead(b *strings.Builder, word string, e Expr) {
	say(b, "(", word, " ")
	writeExpr(b, kid(e, 0))
	say(b, ")")
}

// writePrim writes a kid of a merge: a var in brackets, because it would be a call with a ( behind it.
func writePrim(b *strings.Builder, e Expr) {
	if e.Op != opVar {
		writeExpr(b, e)
		return
	}
	say(b, "(", e.Name, ")")
}

// kid is a kid of an expression, or the zero one, if it has not so many.
func kid(e Expr, k int) Expr {
	if k < len(e.Kids) {
		return e.Kids[k]
	}
	return Expr{}
}

func say(b *strings.Builder, texts ...string) {
	for _, s := range texts {
		b.WriteString(s)
	}
}
