package syn_test

import (
	"fmt"
	"strings"
	"testing"

	"escapement/api"
	"escapement/syn"
)

// deeper are texts that make what stands behind them one deeper, and what must follow behind that.
var deeper = [][2]string{
	{"(", ")"}, {"- ", ""}, {"not ", ""}, {"pre ", ""}, {"1 -> ", ""}, {"1 fby ", ""}, {"a = b when c -> ", ""}, {"f(", ")"}, {"f(1, 1, ", ", 1)"},
	{"if ", " then 1 else 1"}, {"if 1 then ", " else 1"}, {"if 1 then 1 else ", ""}, {"merge c ", " 1"}, {"merge c 1 ", ""}, {"1 + (", ") * 1"}, {"1 or 1 and 1 -> ", ""},
}

// P5.2: just MaxDepth deep, and one more, by each that makes deeper.
func TestDepth(t *testing.T) {
	for _, c := range deeper {
		text := func(n int) string { return strings.Repeat(c[0], n) + "1" + strings.Repeat(c[1], n) }
		parseExpr(t, "P5.2", text(api.MaxDepth-1))
		at := firstTooDeep(c[0])
		checkExprFault(t, "P5.2", text(api.MaxDepth), api.ELIMIT, at)
		checkExprFault(t, "P5.2", text(api.MaxDepth+100), api.ELIMIT, at)
	}
}

// firstTooDeep tells where the first expression stands that is too deep, if that is written more often than may be.
func firstTooDeep(more string) int {
	last := (api.MaxDepth - 1) * len(more)
	switch {
	case strings.HasPrefix(more, "if "):
		return last + len("if ")
	case strings.HasPrefix(more, "f("):
		return last + len("f(")
	case strings.HasPrefix(more, "merge c "):
		return last + len("merge c ")
	}
	return last + len(more)
}

// P5.2: what does not make deeper, just MaxDepth deep already.
func TestNotDeeper(t *testing.T) {
	open, end := strings.Repeat("(", api.MaxDepth-1), strings.Repeat(")", api.MaxDepth-1)
	for _, text := range []string{
		"1", "true", "x", "f()", "a + b", "a + b * c - d / e mod g", "a or b xor c and d", "a = b", "a when c", "a when not c when d", "a * b + c when d < e or f() and g",
	} {
		parseExpr(t, "P5.2", open+text+end)
	}
	for text, at := range map[string]int{
		"(a)": 1, "f(a)": 2, "f(a, b)": 2, "- a": 2, "not a": 4, "pre a": 4, "a -> b": 5, "a fby b": 6, "a or b -> c": 10, "a * b fby c": 10, "a + - b": 6, "- a + b": 2, "if a then b else c": 3, "merge c a b": 8,
	} {
		checkExprFault(t, "P5.2", open+text+end, api.ELIMIT, len(open)+at)
	}
}

// P5.2: an equation's expression is 1 deep, in each equation and each node anew; a left side is no deeper.
func TestDepthBeginsAnew(t *testing.T) {
	deep := "y = " + strings.Repeat("(", 29) + "1" + strings.Repeat(")", 29) + " + " + strings.Repeat("- ", 29) + "1;"
	node := "node f() returns (y: int); let " + deep + deep + " tel "
	parse(t, "P5.2", node+node)
	parseExpr(t, "P5.2", strings.Repeat("- ", 27)+"(a -> b) fby "+strings.Repeat("(", 28)+"1"+strings.Repeat(")", 28))
	checkExprFault(t, "P5.2", strings.Repeat("- ", 27)+"(a -> - b)", api.ELIMIT, 27*2+8)
	checkExprFault(t, "P5.2", "a fby "+strings.Repeat("(", 29)+"1", api.ELIMIT, 6+29)
	parseExpr(t, "P5.2", "a"+strings.Repeat(" when c", 299))
	parseExpr(t, "P5.2", "a"+strings.Repeat(" * b", 149))
}

// P5.2: depth is asked ahead of what the word is: what fits nothing there is too deep. What need not be there is not.
func TestDepthAheadOfTheWord(t *testing.T) {
	for _, c := range deeper {
		at := firstTooDeep(c[0])
		all := strings.Repeat(c[0], api.MaxDepth)[:at]
		for _, word := range []string{";", ",", "*", "then", "node", "->", "=", "when c", "- 1", "(1)", "if", "merge", "f("} {
			checkExprFault(t, "P5.2", all+word, api.ELIMIT, at)
		}
		checkFault(t, "P5.2", ahead+all, api.ELIMIT, len(ahead)+at)
	}
	parseExpr(t, "P5.2", strings.Repeat("f(", api.MaxDepth)+strings.Repeat(")", api.MaxDepth))
	checkExprFault(t, "P5.2", strings.Repeat("(", 16000), api.ELIMIT, api.MaxDepth)
	checkExprFault(t, "P5.2", strings.Repeat("-(", 8000), api.ELIMIT, api.MaxDepth)
}

// P5.2: each word that is a part counts once, and no other does.
func TestPartsOfEachRow(t *testing.T) {
	for text, parts := range map[string]int{
		"1": 1, "true": 1, "false": 1, "a": 1, "(a)": 1, "((a))": 1, "f()": 1, "f(a)": 2, "f(a, b, 1)": 4, "not a": 2, "- 1": 2, "pre a": 2, "a when c": 2, "a when not c": 2, "a when c when not d": 3,
		"if a then b else c": 4, "merge c a b": 3, "merge c (a) (not b)": 4, "a -> b": 3, "a fby b": 3, "a = b": 3, "a mod b": 3, "a <> b": 3, "a and b or c xor d": 7, "(a + b) - (c * d) / e": 9,
	} {
		// The text stands last, behind so many parts that it just fits, and then behind one more.
		fill := func(n int) string { return strings.Repeat("f(", n%2) + strings.Repeat("1+", n/2) }
		room := api.MaxParts - parts
		end := strings.Repeat(")", room%2)
		parseExpr(t, "P5.2", fill(room)+"("+text+")"+end)
		over := fill(room+1) + "(" + text + ")" + strings.Repeat(")", (room+1)%2)
		l, f := syn.Parse(ahead + over + behind)
		if f.Err != api.ELIMIT || len(l) != 0 || f.At < len(ahead+fill(room+1)) || f.At >= len(ahead+over) {
			t.Errorf("P5.2: %s as parts up to %d: %v", text, api.MaxParts+1, f)
		}
	}
}

// P5.2: the word of the part that is too many, of each sort, in the order in which they stand.
func TestPartTooMany(t *testing.T) {
	for _, c := range []struct {
		text string
		at   []int // where its parts stand
	}{
		{"(1)", []int{1}}, {"(true)", []int{1}}, {"(a)", []int{1}}, {"(f())", []int{1}}, {"(f(a, b))", []int{1, 3, 6}}, {"(not a)", []int{1, 5}}, {"(- a)", []int{1, 3}}, {"(pre a)", []int{1, 5}},
		{"(a -> b)", []int{1, 3, 6}}, {"(a fby b)", []int{1, 3, 7}}, {"(a <= b)", []int{1, 3, 6}}, {"(a mod b or c)", []int{1, 3, 7, 9, 12}}, {"(a when c)", []int{1, 3}}, {"(a when not c when d)", []int{1, 3, 14}},
		{"(if a then b else c)", []int{1, 4, 11, 18}}, {"(merge c a b)", []int{1, 9, 11}}, {"(merge c (merge d 1 2) f(a))", []int{1, 10, 18, 20, 23, 25}},
	} {
		for k, at := range c.at {
			n := api.MaxParts - k // so many stand ahead of the text
			fill := strings.Repeat("f(", n%2) + strings.Repeat("1+", n/2)
			checkExprFault(t, "P5.2", fill+c.text+strings.Repeat(")", n%2), api.ELIMIT, len(fill)+at)
		}
	}
}

// P5.2: parts are counted in each equation anew; a word that fits nothing is no part.
func TestPartsBeginAnew(t *testing.T) {
	full := "y = - 1" + strings.Repeat("+1", 149) + ";"
	parse(t, "P5.2", "node f() returns (y: int); let "+full+full+" tel node g() returns (); let "+full+" tel")
	sum := "- 1" + strings.Repeat("+1", 149)
	for _, c := range []struct {
		text string
		err  api.Errno
		at   int
	}{
		{" +", api.ELIMIT, 1}, {" when", api.ELIMIT, 1}, {" + )", api.ELIMIT, 1}, {" -> *", api.ELIMIT, 1}, {" not", api.ESYNTAX, 1}, {" 1", api.ESYNTAX, 1}, {" a", api.ESYNTAX, 1}, {" )", api.ESYNTAX, 1}, {" node", api.ESYNTAX, 1},
	} {
		checkExprFault(t, "P5.2", sum+c.text, c.err, len(sum)+c.at)
	}
	compared := "- 1" + strings.Repeat("+1", 148) + " = 1"
	checkExprFault(t, "P5.2", compared+" = 1", api.ESYNTAX, len(compared)+1)
	checkExprFault(t, "P5.2", compared+" and 1", api.ELIMIT, len(compared)+1)
}

// names are so many declared names.
func names(n int) string {
	return strings.TrimSuffix(strings.Repeat("a,", n), ",")
}

// P5.2: MaxVars declared names, inputs, outputs and locals together, in each node anew; and one more.
func TestDeclaredNames(t *testing.T) {
	node := func(in, out, locals string) string {
		text := "node f("
		if in != "" {
			text += in + ":int"
		}
		text += ")returns("
		if out != "" {
			text += out + ":int"
		}
		text += ");var "
		if locals != "" {
			text += locals + ":int when not c"
		}
		return text + ";let tel "
	}
	full := node(names(64), "", "") + node("", names(64), "") + node("", "", names(64)) + node(names(20), names(21), names(23)) + node(names(1), names(1), names(62))
	if l := parse(t, "P5.2", full); len(l) != 5 || len(l[2].Locals) != 64 {
		t.Errorf("P5.2: %d nodes", len(l))
	}
	for _, c := range []struct {
		in, out, locals string
		at              int
	}{
		{names(65), "", "", 7 + 128}, {names(100), "", "", 7 + 128}, {"", names(65), "", 16 + 128}, {"", "", names(65), 22 + 128}, {names(64), "a", "", 7 + 127 + 4 + 9}, {names(64), "", "a", 7 + 127 + 4 + 9 + 6},
		{names(32), names(32), "a", 7 + 63 + 4 + 9 + 63 + 4 + 6}, {names(32), names(33), "", 7 + 63 + 4 + 9 + 64},
	} {
		text := node(c.in, c.out, c.locals)
		checkFault(t, "P5.2", text, api.ELIMIT, c.at)
		checkFault(t, "P5.2", full+text, api.ELIMIT, len(full)+c.at)
		checkFault(t, "P5.2", text[:c.at]+"a", api.ELIMIT, c.at)
		checkFault(t, "P5.2", text[:c.at]+"int", api.ESYNTAX, c.at)
		checkFault(t, "P5.2", text[:c.at], api.ESYNTAX, c.at)
	}
	one := "node f(" + strings.Repeat("a:int;", 63) + "a:bool) returns ("
	parse(t, "P5.2", one+"); let tel")
	checkFault(t, "P5.2", one+"b", api.ELIMIT, len(one))
	one = "node f() returns (); var " + strings.Repeat("a:int;", 64)
	parse(t, "P5.2", one+" let tel")
	checkFault(t, "P5.2", one+" b let tel", api.ELIMIT, len(one)+1)
}

// P5.2: names that are used are not declared: there may be more of them.
func TestUsedNamesAreNotCounted(t *testing.T) {
	var text strings.Builder
	for i := range 150 {
		fmt.Fprintf(&text, "v%d = w%d when c%d; ", i, i, i)
	}
	if l := parse(t, "P5.2", "node f() returns (); var "+names(64)+": int when d; let "+text.String()+"tel"); len(l[0].Eqs) != 150 {
		t.Errorf("P5.2: %d equations", len(l[0].Eqs))
	}
}

// P5.2: MaxNodes nodes, and one more: at its first word, unless that fits nothing.
func TestNodes(t *testing.T) {
	const node = "node f() returns (y: int); let tel "
	all := strings.Repeat(node, api.MaxNodes)
	if l := parse(t, "P5.2", all); len(l) != api.MaxNodes {
		t.Errorf("P5.2: %d nodes", len(l))
	}
	parse(t, "P5.2", strings.ReplaceAll(all, "tel", "tel;"))
	for _, more := range []string{"node", node, node + node, "node )", "node f() returns (y: int); let y = ; tel"} {
		checkFault(t, "P5.2", all+more, api.ELIMIT, len(all))
	}
	for _, more := range []string{"let", ")", "x", "1", "tel"} {
		checkFault(t, "P5.2", all+more, api.ESYNTAX, len(all))
	}
	checkFault(t, "P5.2", all+";;", api.ESYNTAX, len(all)+1)
}

// P5.2: of faults at several words the first word's is told, whichever it is.
func TestFirstFault(t *testing.T) {
	deep := strings.Repeat("(", 30)
	long := "1" + strings.Repeat("+1", 149)
	for _, c := range []struct {
		text string
		err  api.Errno
		at   int
	}{
		{"a b " + deep + "1", api.ESYNTAX, 2},
		{deep + "1 b", api.ELIMIT, 30},
		{deep[1:] + "b b " + deep, api.ESYNTAX, 31},
		{long + "+ 1 1", api.ELIMIT, len(long) + 2},
		{long + " 1 + 1", api.ESYNTAX, len(long) + 1},
		{long + " + " + deep + "1", api.ELIMIT, len(long) + 3 + 30},
		{long + "*(a) + " + deep, api.ELIMIT, len(long) + 2},
		{deep + long, api.ELIMIT, 30},
	} {
		checkExprFault(t, "P5.2", c.text, c.err, c.at)
	}
	checkFault(t, "P5.2", "node f("+names(65)+") returns", api.ELIMIT, 7+128)
	checkFault(t, "P5.2", "node f(a b, "+names(65)+": int)", api.ESYNTAX, 9)
}
