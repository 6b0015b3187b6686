package front_test

import (
	"fmt"
	"math/rand"
	"slices"
	"strings"
	"testing"

	"escapement/api"
	"escapement/cau"
	"escapement/clk"
	"escapement/front"
	"escapement/ini"
	"escapement/lex"
	"escapement/names"
	"escapement/syn"
	"escapement/typ"
)

// node is one with x, an int, and c, a bool, as inputs, and that as its output's expression.
func node(name, e string) string {
	return "node " + name + "(x: int; c: bool) returns (y: int); let y = " + e + "; tel "
}

// samples are programs that have all of the language.
var samples = []string{
	"node f() returns (y: int); let y = 1; tel",
	node("f", "x + (0 fby y)") + node("g", "f(x * 2, c) - (0 -> pre f(x, not c))") + node("h", "if c and x < 1 then g(x, c) else - f(x, c) mod 3"),
	"node f(x: int; c: bool) returns (y: int); var a, b: int when c; d: int when not c; let a = x when c; b = a -> pre b + a; d = 0 fby x when not c; y = merge c (b) (d + 1); tel",
	"node f(x: int) returns (y: int; o: bool); var a: bool; b: bool when a; e: int when not b; late: int; let a = x > 0; b = true fby not b; e = (x when a) when not b; o = merge a (b or b xor b) (false); late = pre x; y = 0 -> late / 2; tel; node g(x: int) returns (y: int); let y = x; tel",
}

// dump tells all of a program.
func dump(l []syn.Node) string { return fmt.Sprintf("%+v", l) }

// slow goes through the chapter, and tells which layer is the first to have a fault: 0 syn, .., 6 none.
func slow(text string) ([]syn.Node, api.Fault, int) {
	l, f := syn.Parse(text)
	if f.Err != api.OK {
		return nil, f, 0
	}
	if f = names.Check(l); f.Err != api.OK {
		return nil, f, 1
	}
	if f = typ.Check(l); f.Err != api.OK {
		return nil, f, 2
	}
	if f = clk.Check(l); f.Err != api.OK {
		return nil, f, 3
	}
	if f = ini.Check(l); f.Err != api.OK {
		return nil, f, 4
	}
	if f = cau.Check(l); f.Err != api.OK {
		return nil, f, 5
	}
	return l, api.Fault{}, 6
}

// checkSlow holds Check against the chapter, asked twice, and tells what slow tells.
func checkSlow(t *testing.T, text string) int {
	t.Helper()
	want, fault, layer := slow(text)
	for range 2 {
		l, f := front.Check(text)
		if f != fault || dump(l) != dump(want) {
			t.Errorf("P11.1: Check(%q): %s, %v at %d, want %s, %v at %d", text, dump(l), f.Err, f.At, dump(want), fault.Err, fault.At)
		}
		if f.At < 0 || f.At > len(text) || (len(l) > 0) != (f.Err == api.OK) {
			t.Errorf("T1: Check(%q): %d nodes, and %v at %d", text, len(l), f.Err, f.At)
		}
	}
	return layer
}

// words is a text's words, without the end.
func words(text string) []string {
	l, _ := lex.Cut(text)
	var texts []string
	for _, w := range l[:len(l)-1] {
		texts = append(texts, w.Text)
	}
	return texts
}

// spoilt is a text of which a word is another: mostly one that may stand there, too.
func spoilt(r *rand.Rand, l []string) []string {
	k := r.Intn(len(l))
	word := l[k]
	cut, _ := lex.Cut(word)
	isValue := len(cut) == 2 && (cut[0].Kind == 1 || cut[0].Kind == 3)
	for _, alike := range []string{"x c y a b d e o late f g q", "+ - * / mod fby -> when", "= <> < <= > >=", "and or xor -> fby", "-> fby", "true false", "bool int", "1 0 x y", "not -"} {
		if others := strings.Fields(alike); slices.Contains(others, word) {
			word = others[r.Intn(len(others))]
		}
	}
	switch n := r.Intn(40); {
	case n == 0:
		word = l[r.Intn(len(l))]
	case n == 1:
		word = strings.Repeat(word+" ", 2*r.Intn(2))
	case n < 10 && isValue:
		word = "pre " + word
	case n < 20 && isValue:
		word = "(" + word + " when c)"
	}
	return slices.Replace(slices.Clone(l), k, k+1, word)
}

// P11.1, R5, T1: programs of which some words are spoilt.
func TestSpoiltPrograms(t *testing.T) {
	if testing.Short() {
		t.Skip("it takes a few seconds")
	}
	r := rand.New(rand.NewSource(111))
	var counts [7]int
	for range 20000 {
		if t.Failed() {
			return
		}
		l := words(samples[r.Intn(len(samples))])
		for range r.Intn(5) {
			l = spoilt(r, l)
		}
		counts[checkSlow(t, strings.Join(l, " "))]++
	}
	if slices.Min(counts[:]) < 50 {
		t.Errorf("of the programs %v had a fault of each layer, and of none", counts)
	}
}

// R1, T1: texts of any bytes, and long ones.
func TestOddTexts(t *testing.T) {
	r := rand.New(rand.NewSource(112))
	for range 2000 {
		b := make([]byte, r.Intn(40))
		r.Read(b)
		checkSlow(t, string(b))
	}
	for _, text := range []string{"(", "node ", "node f(", "- ", "pre ", "x", "1", "\x00", "\xff", "--", "merge c ", "node f() returns (y: int); let y = 1; tel ", "not "} {
		for _, size := range []int{1, 100, api.MaxText / len(text), api.MaxText, 1 << 20} {
			checkSlow(t, strings.Repeat(text, size))
			checkSlow(t, "node f() returns (y: int); let y = "+strings.Repeat(text, size))
		}
	}
}

// places is where in memory each item of all lists of a program stands, spare room too.
func places(l []syn.Node) []any {
	var all []any
	vars := func(l []syn.Var) {
		for k := range l[:cap(l)] {
			all = append(all, &l[:cap(l)][k])
		}
	}
	var exprs func(l []syn.Expr)
	exprs = func(l []syn.Expr) {
		for k := range l[:cap(l)] {
			e := &l[:cap(l)][k]
			all = append(all, e)
			exprs(e.Kids)
		}
	}
	for k := range l[:cap(l)] {
		n := &l[:cap(l)][k]
		all = append(all, n)
		vars(n.In)
		vars(n.Out)
		vars(n.Locals)
		for i := range n.Eqs[:cap(n.Eqs)] {
			q := &n.Eqs[:cap(n.Eqs)][i]
			all = append(all, q)
			exprs(q.E.Kids)
		}
	}
	return all
}

// holdApart holds that no two lists share a place.
func holdApart(t *testing.T, text string, all []any) {
	t.Helper()
	seen := map[any]struct{}{}
	for _, at := range all {
		seen[at] = struct{}{}
	}
	if len(seen) < len(all) {
		t.Errorf("R4: of %d places of %s only %d are not shared", len(all), text, len(seen))
	}
}

// spoil writes over all that a program has, spare room too.
func spoil(l []syn.Node) {
	for _, at := range places(l) {
		switch at := at.(type) {
		case *syn.Node:
			at.Name, at.At = "spoilt", -1
		case *syn.Var:
			*at = syn.Var{Name: "spoilt", Kind: -1}
		case *syn.Eq:
			at.Name, at.E.Op = "spoilt", "spoilt"
		case *syn.Expr:
			at.Op, at.Name, at.N = "spoilt", "spoilt", -1
		}
	}
}

// R4, R5: the nodes that were told may be written to, spare room too, without changing what is told elsewhere.
func TestNodesAreNew(t *testing.T) {
	for _, text := range samples {
		want := dump(holdProgram(t, text))
		a, _ := front.Check(text)
		b, _ := front.Check(text)
		holdApart(t, text, append(places(a), places(b)...))
		spoil(a)
		if c := holdProgram(t, text); dump(b) != want || dump(c) != want {
			t.Errorf("R4: what was told of %s is changed by writing to what was told ahead", text)
		}
	}
}

// P11.1, R1, T1: any text.
func FuzzCheck(f *testing.F) {
	for _, text := range samples {
		f.Add(text)
	}
	for _, one := range faulty {
		f.Add(node("f", strings.ReplaceAll(one.e, "^", "")))
	}
	f.Fuzz(func(t *testing.T, text string) { checkSlow(t, text) })
}
