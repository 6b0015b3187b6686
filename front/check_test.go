package front_test

import (
	"strconv"
	"strings"
	"testing"

	"escapement/api"
	"escapement/front"
	"escapement/syn"
)

// holdFault holds that a text has that fault, and that no nodes are told then.
func holdFault(t *testing.T, text string, want api.Fault) {
	t.Helper()
	if l, f := front.Check(text); f != want || len(l) != 0 {
		t.Errorf("P11.1: Check(%.2000q): %d nodes, %v at %d, want %v at %d", text, len(l), f.Err, f.At, want.Err, want.At)
	}
}

// holdMarked holds that a text's fault is at its ^.
func holdMarked(t *testing.T, err api.Errno, marked string) {
	t.Helper()
	holdFault(t, strings.Replace(marked, "^", "", 1), api.Fault{Err: err, At: strings.Index(marked, "^")})
}

// holdProgram holds that a text is a program, and that what syn reads of it is told, with where it stands.
func holdProgram(t *testing.T, text string) []syn.Node {
	t.Helper()
	l, f := front.Check(text)
	want, parsed := syn.Parse(text)
	if f != (api.Fault{}) || parsed != (api.Fault{}) || len(l) == 0 || dump(l) != dump(want) {
		t.Errorf("P11.1: Check(%.2000q): %s, %v at %d, want %s", text, dump(l), f.Err, f.At, dump(want))
	}
	return l
}

// P11.1: what the document shows.
func TestCheckExamples(t *testing.T) {
	if l := holdProgram(t, "node f(x: int) returns (y: int); let y = x; tel"); len(l) != 1 || l[0].Name != "f" {
		t.Errorf("P11.1: the nodes of the example: %s", dump(l))
	}
	for _, text := range []string{
		"node f(x: int) returns (y: int); let y = x + 1; tel\n", "node f(x: int) returns (y: int); let y = 0 -> pre x; tel\n", "node f(x: int) returns (s: int); let s = x + (0 fby s); tel\n",
		"node f(c: bool; x: int) returns (y: int); let y = merge c (x when c) (0 - 1); tel\n",
	} {
		holdProgram(t, text)
	}
	holdFault(t, "node f(x: int) returns (y: int); let y = pre x; tel\n", api.Fault{Err: 11, At: 37})
	holdFault(t, "node f() returns (y: int); let y = y; tel\n", api.Fault{Err: 12, At: 31})
	holdFault(t, "node f() returns (y: int); let y = z; tel\n", api.Fault{Err: 8, At: 35})
}

// P11.1: programs, all of whose nodes are told.
func TestCheckOfPrograms(t *testing.T) {
	for _, text := range samples {
		holdProgram(t, text)
	}
	var many strings.Builder
	for k := range api.MaxNodes {
		many.WriteString(node("f"+strconv.Itoa(k), "x"))
	}
	if l := holdProgram(t, many.String()); len(l) != api.MaxNodes {
		t.Errorf("P11.1: %d nodes are told", len(l))
	}
}

// P11.1: each fault of a layer, in a text that no layer ahead has one of.
func TestFaultsOfLayers(t *testing.T) {
	for err, texts := range map[api.Errno][]string{
		api.ESYNTAX: {
			"^", " -- none\n^", "^!", "^x", "^node_f", "^Node", "node ^pre() returns (y: int); let y = 1; tel", "node f(x ^int) returns (y: int); let y = 1; tel", node("f", "1") + "^let", node("f", "1") + "node^",
			node("f", "^"), node("f", "1 + ^"), node("f", "1 ^? 2"), node("f", "^007"), node("f", "^9223372036854775808"), node("f", "^abcdefghijklmnopqrstuvwxy"), node("f", "x ^x"), node("f", "(x^"), node("f", "merge c x ^"),
		},
		api.ENAME: {
			node("f", "^q"), node("f", "^f(x, c)"), node("f", "^g(x, c)") + node("g", "x"), node("f", "x") + node("g", "^f(x)"), node("f", "x") + node("g", "^f()"), node("f", "x ^when d"), node("f", "^merge d x x"), node("f", "x") + "^" + node("f", "x"),
			"^node f() returns (); let tel", "node f(x: int) returns (^x: int); let x = 1; tel", "node f() returns (y: int); var ^a: int when b; let y = 1; a = 1; tel",
			"node f() returns (y: int); let y = 1; ^y = 2; tel", "node f(x: int) returns (y: int); let ^x = 1; y = 2; tel", "node f() returns (y, ^z: int); let y = 1; tel",
		},
		api.ETYPE: {
			node("f", "x ^+ c"), node("f", "^not x"), node("f", "^- c"), node("f", "^if x then x else x"), node("f", "x ^-> c"), node("f", "x ^when x"), node("f", "^merge x x x"), node("f", "x") + node("g", "^f(c, x)"),
			"node f() returns (y: int); let ^y = true; tel", "node f(x: int) returns (y: bool); let ^y = x; tel", "node f(x: int) returns (y: int); var ^a: int when x; let y = 1; a = 1; tel",
		},
		api.ECLOCK: {
			node("f", "x ^+ (x when c)"), node("f", "(x when c) ^-> x"), node("f", "(x when c) ^when c"), node("f", "^merge c x x"), node("f", "^merge c (x when not c) (x when c)"), node("f", "x") + node("g", "^f(x when c, c)"),
			"node f(x: int; c: bool) returns (y: int); let ^y = x when c; tel", "node f(x: int; c: bool) returns (y: int); var a: int when c; let y = 1; ^a = x; tel",
		},
		api.EINIT: {
			node("f", "0 -> ^pre pre x"), node("f", "pre x ^-> 1"), node("f", "pre x ^fby 1"), node("f", "1 ^fby pre x"), node("f", "^merge c (pre (x when c)) 1"), node("f", "x") + node("g", "^f(pre x, c)"),
			"node f(x: int) returns (y: int); let ^y = pre x; tel", "node f(x: int) returns (y: int); var a: int; let ^y = a + 1; a = pre x; tel", "node f(c: bool) returns (y: int); var a: bool; b: int when a; let y = 1; ^a = pre c; b = 1; tel",
		},
		api.ECAUSE: {
			"node f() returns (y: int); let ^y = y + 1; tel", "node f() returns (y, z: int); let ^y = z; z = y; tel", "node f(x: int) returns (y: int); let ^y = y fby x; tel", node("f", "x") + "node g(c: bool) returns (y: int); let ^y = f(y, c); tel",
			"node f() returns (o: bool); var a: bool when o; let ^a = true; o = merge o (a) false; tel",
		},
	} {
		for _, marked := range texts {
			holdMarked(t, err, marked)
		}
	}
}

// P11.1: what is more than may be is syn's fault, and so is told ahead of all others; at the limit all is well.
func TestLimits(t *testing.T) {
	blanks := func(text string, size int) string { return text + strings.Repeat(" ", size-len(text)) }
	nodes := func(count int, e string) string {
		var b strings.Builder
		for k := range count {
			b.WriteString(node("f"+strconv.Itoa(k), e))
		}
		return b.String()
	}
	// It has all names but one, so that one more, at the end, is the last one that may be, or one too many.
	names := func(count int) string {
		l := []string{"v1"}
		for k := 2; k < count; k++ {
			l = append(l, "v"+strconv.Itoa(k))
		}
		return "node g(" + strings.Join(l, ", ") + ": int) returns (^"
	}
	for _, e := range []string{"x", "q", "x + c", "x when c", "pre x", "y"} {
		holdFault(t, blanks(node("f", e), api.MaxText+1), api.Fault{Err: api.ELIMIT, At: api.MaxText + 1})
		holdMarked(t, api.ELIMIT, nodes(api.MaxNodes, e)+"^"+node("g", "x"))
		holdMarked(t, api.ELIMIT, node("f", e)+node("g", strings.Repeat("(", api.MaxDepth)+"^x"))
		holdMarked(t, api.ELIMIT, node("f", e)+node("g", "x"+strings.Repeat(" + x", (api.MaxParts-1)/2)+" + ^x"))
		holdMarked(t, api.ELIMIT, node("f", e)+names(api.MaxVars+1)+"y: int); let y = 1; tel")
	}
	holdProgram(t, strings.ReplaceAll(names(api.MaxVars)+"y: int); let y = 1; tel", "^", ""))
	holdProgram(t, blanks(node("f", "x"), api.MaxText))
	holdProgram(t, nodes(api.MaxNodes, "x"))
	holdProgram(t, node("f", strings.Repeat("(", api.MaxDepth-1)+"x"+strings.Repeat(")", api.MaxDepth-1)))
	holdProgram(t, node("f", "- x"+strings.Repeat(" + x", (api.MaxParts-2)/2)))
	for _, one := range faulty[1 : len(faulty)-1] {
		holdMarked(t, one.err, blanks(node("f", one.e), api.MaxText+1)) // the ^ is none of them
		holdMarked(t, one.err, nodes(api.MaxNodes-1, "x")+node("g", one.e))
		holdMarked(t, one.err, node("g", strings.Repeat("(", api.MaxDepth-5)+one.e+strings.Repeat(")", api.MaxDepth-5)))
	}
}

// faulty is a fault of each layer, in the order in which they are asked, each in y's expression.
var faulty = []struct {
	err api.Errno
	e   string
}{
	{api.ESYNTAX, "(x + ^)"}, {api.ENAME, "^q"}, {api.ETYPE, "(x ^+ c)"}, {api.ECLOCK, "(x ^+ (x when c))"}, {api.EINIT, "(0 -> ^pre pre x)"}, {api.ECAUSE, "(x + y)"},
}

// orders calls with all orders of all that may be taken of numbers below count.
func orders(count int, taken []int, call func(taken []int)) {
	if len(taken) > 0 {
		call(taken)
	}
	for k := range count {
		isTaken := false
		for _, m := range taken {
			isTaken = isTaken || m == k
		}
		if !isTaken {
			orders(count, append(taken[:len(taken):len(taken)], k), call)
		}
	}
}

// first is the lowest of some numbers.
func first(taken []int) int {
	k := taken[0]
	for _, m := range taken {
		k = min(k, m)
	}
	return k
}

// equation is one with faulty's fault, whose ^ is left only if it is wanted.
func equation(k int, name string, wanted bool) string {
	mark, e := "", strings.ReplaceAll(faulty[k].e, "y", name)
	if wanted && faulty[k].err == api.ECAUSE {
		mark = "^"
	}
	if !wanted {
		e = strings.ReplaceAll(e, "^", "")
	}
	return mark + name + " = " + e + "; "
}

const decls = "(x: int; c: bool) returns "

// P11.1: of several faults it is that of the layer asked first, in whichever node, and wherever this stands.
func TestLayersInOrderOverNodes(t *testing.T) {
	orders(len(faulty), nil, func(taken []int) {
		text := node("ahead", "x")
		for i, k := range taken {
			text += "node f" + strconv.Itoa(i) + decls + "(y: int); let " + equation(k, "y", k == first(taken)) + "tel "
		}
		holdMarked(t, faulty[first(taken)].err, text+node("behind", "x"))
	})
}

// P11.1: so too within one node, in whichever equation.
func TestLayersInOrderOverEquations(t *testing.T) {
	orders(len(faulty), nil, func(taken []int) {
		outs, eqs := "ahead, behind", "ahead = x; "
		for i, k := range taken {
			name := "y" + strconv.Itoa(i)
			outs += ", " + name
			eqs += equation(k, name, k == first(taken))
		}
		holdMarked(t, faulty[first(taken)].err, "node f"+decls+"("+outs+": int); let "+eqs+"behind = x; tel")
	})
}

// P11.1: so too within one expression.
func TestLayersInOrderOverParts(t *testing.T) {
	orders(len(faulty), nil, func(taken []int) {
		mark, e := "", "x"
		for _, k := range taken {
			part := faulty[k].e
			if k != first(taken) {
				part = strings.ReplaceAll(part, "^", "")
			}
			e += " - " + part
		}
		if faulty[first(taken)].err == api.ECAUSE {
			mark = "^"
		}
		holdMarked(t, faulty[first(taken)].err, "node f"+decls+"(y: int); let "+mark+"y = "+e+" + x; tel")
	})
}

// P11.1: of several faults of one layer it is that layer's first.
func TestFirstFaultOfALayer(t *testing.T) {
	for k, one := range faulty {
		eqs := func(wanted bool) string { return equation(k, "y", wanted) + equation(k, "z", false) }
		text := "node f" + decls + "(y, z: int); let " + eqs(true) + "tel node g" + decls + "(y, z: int); let " + eqs(false) + "tel"
		holdMarked(t, one.err, text)
	}
}
