package cau

import (
	"slices"

	"escapement/syn"
)

// none is the number of what is no output or local, as an input, which is there ahead of all.
const none = -1

// web is who leans on whom in a node, by the numbers of its outputs and locals, in the order in which they are declared.
type web struct {
	names   []string
	numbers map[string]int
	on      []int
	// leans may have one twice, and has of the Ons a name's own alone: who is behind that one is behind the On of it, and
	// so on, without more ado, and rows of Ons may be long.
	leans [][]int
}

// webOf goes through a node but once, for one that was made of many may declare far more than a text may. Of several that
// have one name it takes the first, as names does.
func webOf(n syn.Node) web {
	w := web{numbers: map[string]int{}}
	for _, v := range n.In {
		w.numbers[v.Name] = none
	}
	var declared []syn.Var
	for _, v := range slices.Concat(n.Out, n.Locals) {
		if _, taken := w.numbers[v.Name]; !taken {
			w.numbers[v.Name] = len(w.names)
			w.names = append(w.names, v.Name)
			declared = append(declared, v)
		}
	}
	w.leans = make([][]int, len(declared))
	for _, q := range slices.Backward(n.Eqs) {
		if k := w.number(q.Name); k != none {
			w.leans[k] = w.named(nil, q.E)
		}
	}
	for k, v := range declared {
		on := none
		if v.On != "" {
			on = w.number(v.On)
		}
		w.on = append(w.on, on)
		w.leans[k] = add(w.leans[k], on)
	}
	return w
}

func (w web) number(name string) int {
	if k, ok := w.numbers[name]; ok {
		return k
	}
	return none
}

func add(l []int, k int) []int {
	if k == none {
		return l
	}
	return append(l, k)
}

// named adds whom an expression names, but beneath what holds a value of the tick ahead.
func (w web) named(l []int, e syn.Expr) []int {
	switch e.Op {
	case "pre":
		return l
	case "var", "when", "merge":
		l = add(l, w.number(e.Name))
	}
	for i, kid := range e.Kids {
		if e.Op != "fby" || i != 1 {
			l = w.named(l, kid)
		}
	}
	return l
}

// allOf is on whom one leans, with the Ons of its On, in order.
func (w web) allOf(k int) []int {
	leans := make([]bool, len(w.names))
	for on := w.on[k]; on != none && !leans[on]; on = w.on[on] {
		leans[on] = true
	}
	for _, m := range w.leans[k] {
		leans[m] = true
	}
	var l []int
	for m, is := range leans {
		if is {
			l = append(l, m)
		}
	}
	return l
}

func (w web) namesOf(l []int) []string {
	var names []string
	for _, k := range l {
		names = append(names, w.names[k])
	}
	return names
}

// turned is who leans on each, of on whom each leans.
func turned(leans [][]int) [][]int {
	leaners := make([][]int, len(leans))
	for k, l := range leans {
		for _, m := range l {
			leaners[m] = append(leaners[m], k)
		}
	}
	return leaners
}
