package emit_test

import (
	"fmt"
	"math/rand"
	"reflect"
	"slices"
	"testing"

	"escapement/api"
	"escapement/cau"
	"escapement/clk"
	"escapement/code"
	"escapement/emit"
	"escapement/flat"
	"escapement/front"
	"escapement/ini"
	"escapement/names"
	"escapement/syn"
	"escapement/typ"
)

// checkMade holds that what was made at random is what flat could tell.
func checkMade(t *testing.T, n syn.Node) {
	t.Helper()
	for name, check := range map[string]func([]syn.Node) api.Fault{"names": names.Check, "typ": typ.Check, "clk": clk.Check, "ini": ini.Check, "cau": cau.Check} {
		if f := check([]syn.Node{n}); f != (api.Fault{}) {
			t.Fatalf("what was made has a fault of %s: %v:\n%s", name, f.Err, show(n))
		}
	}
	if m, e := flat.Flat([]syn.Node{n}); e != api.OK || !syn.Same([]syn.Node{m}, []syn.Node{n}) {
		t.Fatalf("P13.1: Flat of a node without calls: %v:\n%s", e, show(n))
	}
}

// notice counts a node's parts, parts within parts, and on what clocks they are.
func notice(n syn.Node, seen map[string]int) {
	var walk func(e syn.Expr, within string)
	walk = func(e syn.Expr, within string) {
		seen[e.Op]++
		seen[within+e.Op]++
		for _, k := range e.Kids {
			walk(k, e.Op+" of ")
		}
	}
	on := map[string]syn.Var{}
	for _, v := range n.Locals {
		on[v.Name] = v
	}
	for _, q := range n.Eqs {
		walk(q.E, "")
		steps := 0
		for v := on[q.Name]; v.On != ""; v = on[v.On] {
			steps++
			seen[fmt.Sprint("a step that is ", !v.Not)]++
		}
		seen[fmt.Sprint("an equation on ", min(steps, 3), " steps")]++
	}
	seen["late names"] += len(ini.Late(n))
}

// P15.1, T1: nodes at random.
func TestNodes(t *testing.T) {
	if testing.Short() {
		t.Skip("it takes a second")
	}
	m := &maker{r: rand.New(rand.NewSource(15))}
	seen := map[string]int{}
	for range 3000 {
		n := m.node(m.r.Intn(6), 1+m.r.Intn(3), m.r.Intn(12), 10+m.r.Intn(250))
		checkMade(t, n)
		in := m.rows(n.In, m.r.Intn(16))
		if holdMeans(t, n, in, meantBy(t, n, in)) {
			notice(n, seen)
		}
	}
	for _, of := range []string{
		"int", "bool", "var", "not", "neg", "pre", "+", "-", "*", "/", "mod", "=", "<>", "<", "<=", ">", ">=", "and", "or", "xor", "->", "fby", "when", "if", "merge",
		"fby of fby", "fby of ->", "fby of merge", "fby of when", "-> of pre", "-> of fby", "pre of fby", "pre of ->", "pre of merge", "pre of if", "pre of when", "pre of neg", "pre of +", "when of pre", "when of fby", "when of ->", "when of when", "merge of merge", "merge of fby", "merge of ->", "merge of when", "if of pre", "if of merge",
		"an equation on 0 steps", "an equation on 1 steps", "an equation on 2 steps", "an equation on 3 steps", "a step that is true", "a step that is false", "late names",
	} {
		if seen[of] < 50 {
			t.Errorf("of all that was made, there were %d of %s", seen[of], of)
		}
	}
}

// P15.1: nodes at random, of about as many parts as never are too many.
func TestGreatNodes(t *testing.T) {
	if testing.Short() {
		t.Skip("it takes a second")
	}
	m := &maker{r: rand.New(rand.NewSource(60))}
	great := 0
	for range 250 {
		outs := 1 + m.r.Intn(20)
		n := m.node(m.r.Intn(40), outs, 60-outs, 330)
		checkMade(t, n)
		in := m.rows(n.In, 6)
		holdMeans(t, n, in, meantBy(t, n, in))
		if _, parts := size(n); parts > 300 && parts <= 400 {
			great++
		}
	}
	if great < 60 {
		t.Errorf("of all that was made, %d had about as many parts as never are too many", great)
	}
}

// roomy is a value whose lists, and theirs, all have spare room.
func roomy(v reflect.Value) reflect.Value {
	switch v.Kind() {
	case reflect.Slice:
		l := reflect.MakeSlice(v.Type(), v.Len(), v.Len()+3)
		for k := range v.Len() {
			l.Index(k).Set(roomy(v.Index(k)))
		}
		return l
	case reflect.Struct:
		s := reflect.New(v.Type()).Elem()
		for k := range v.NumField() {
			s.Field(k).Set(roomy(v.Field(k)))
		}
		return s
	}
	return v
}

// dump tells all of a value, spare room too.
func dump(v reflect.Value) string {
	text := ""
	switch v.Kind() {
	case reflect.Slice:
		for k := range v.Cap() {
			text += dump(v.Slice(0, v.Cap()).Index(k)) + ","
		}
		return "[" + text + "]"
	case reflect.Struct:
		for k := range v.NumField() {
			text += dump(v.Field(k)) + ","
		}
		return "{" + text + "}"
	}
	return fmt.Sprint(v)
}

// spoil writes over a list, spare room too.
func spoil[T any](l []T, with T) {
	l = l[:cap(l)]
	for k := range l {
		l[k] = with
	}
}

// R4, R5: Emit changes nothing of what is handed in; what it tells is new memory, and the same again.
func TestEmitIsNew(t *testing.T) {
	m := &maker{r: rand.New(rand.NewSource(4))}
	for range 40 {
		n := roomy(reflect.ValueOf(m.node(3, 3, 8, 200))).Interface().(syn.Node)
		was := dump(reflect.ValueOf(n))
		p, ok := emitted(t, n)
		q, _ := emitted(t, n)
		if dump(reflect.ValueOf(n)) != was || !code.Same(p, q) {
			t.Fatalf("R4, R5: Emit changes what is handed in, or tells something else the next time:\n%s", show(n))
		}
		if !ok {
			continue
		}
		want := code.Encode(q)
		kinds := []*[]api.Kind{&p.Ins, &p.Outs, &p.Slots, &p.Mems}
		for k, l := range kinds {
			spoil(*l, api.Kind(50+k))
		}
		spoil(p.Consts, 50)
		spoil(p.Code, code.Instr{Op: 50, A: 50})
		for k, l := range kinds {
			if slices.ContainsFunc(*l, func(kind api.Kind) bool { return kind != api.Kind(50+k) }) {
				t.Fatalf("R4: two lists of an answer share memory:\n%s", show(n))
			}
		}
		if r, _ := emit.Emit(n); !slices.Equal(code.Encode(q), want) || !slices.Equal(code.Encode(r), want) || dump(reflect.ValueOf(n)) != was {
			t.Fatalf("R4: writing to what was told changes what is told, or was handed in:\n%s", show(n))
		}
	}
}

// P15.1, R1, T1: any text, of rows made of any bytes.
func FuzzEmit(f *testing.F) {
	f.Add("node f(x: int) returns (y: int); let y = 0 -> pre x; tel", []byte{5, 6, 7})
	f.Add("node s(a: int) returns (s: int); let s = a + (0 fby s); tel node f(x: int; c: bool) returns (y: int); let y = merge c s(x when c) (s(x) when not c); tel", []byte{5, 0, 6, 1, 7, 1})
	f.Add("node f(x: int; c: bool) returns (y: int); var a: bool when c; b: int when not a; let a = true fby not a; b = 1 -> pre b + 1; y = merge c (merge a 0 b) (x when not c); tel", []byte{5, 0, 6, 1, 7, 1})
	f.Add("node f(x: int; c: bool) returns (y: bool); let y = if c <> (x >= 3) then c xor x < 2 or x > 7 else x = 1 and not c; tel", []byte{5, 0, 6, 1, 7, 1})
	f.Fuzz(func(t *testing.T, text string, b []byte) {
		l, fault := front.Check(text)
		if fault.Err != api.OK {
			return
		}
		n, e := flat.Flat(l)
		if e != api.OK || len(n.Eqs) > api.MaxEqs {
			return
		}
		var in []api.Row
		for len(n.In) > 0 && len(b) >= len(n.In) && len(in) < 20 {
			var r api.Row
			for k, v := range n.In {
				r = append(r, int64(int8(b[k])))
				if v.Kind == api.Bool {
					r[k] &= 1
				}
			}
			in, b = append(in, r), b[len(n.In):]
		}
		holdMeans(t, n, in, meantBy(t, n, in))
	})
}
