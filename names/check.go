package names

import (
	"escapement/api"
	"escapement/syn"
)

// The Ops that have a name.
const (
	opVar   = "var"
	opCall  = "call"
	opWhen  = "when"
	opMerge = "merge"
)

// standing is how far a name of a node has come.
type standing int

const (
	unknown standing = iota
	given            // an input
	lacking          // an output or a local, as yet without an equation
	defined
)

// checker is what is known where it stands.
type checker struct {
	nodes map[string]syn.Node // those ahead, none of them with a fault
	names map[string]standing // of the node that is asked
}

func fault(at int) api.Fault { return api.Fault{Err: api.ENAME, At: at} }

// node asks all of a node, and is behind it then: only now, because a node may not call itself.
func (c *checker) node(n syn.Node) api.Fault {
	if _, ok := c.nodes[n.Name]; ok || len(n.Out) == 0 {
		return fault(n.At)
	}
	c.names = map[string]standing{}
	if f := c.declarations(n); f.Err != api.OK {
		return f
	}
	for _, q := range n.Eqs {
		if f := c.equation(q); f.Err != api.OK {
			return f
		}
	}
	if f := c.lacks(n); f.Err != api.OK {
		return f
	}
	c.nodes[n.Name] = n
	return api.Fault{}
}

func (c *checker) declarations(n syn.Node) api.Fault {
	for _, v := range n.In {
		if !c.declare(v, given) {
			return fault(v.At)
		}
	}
	for _, v := range n.Out {
		if !c.declare(v, lacking) {
			return fault(v.At)
		}
	}
	for _, v := range n.Locals {
		if v.On != "" && !c.knows(v.On) || !c.declare(v, lacking) {
			return fault(v.At)
		}
	}
	return api.Fault{}
}

func (c *checker) knows(name string) bool { return c.names[name] != unknown }

// declare tells whether nothing ahead is declared so.
func (c *checker) declare(v syn.Var, s standing) bool {
	if c.knows(v.Name) {
		return false
	}
	c.names[v.Name] = s
	return true
}

func (c *checker) equation(q syn.Eq) api.Fault {
	if c.names[q.Name] != lacking {
		return fault(q.At)
	}
	c.names[q.Name] = defined
	return c.part(q.E)
}

// part asks a part of an expression, and then its kids.
func (c *checker) part(e syn.Expr) api.Fault {
	if !c.fits(e) {
		return fault(e.At)
	}
	for _, k := range e.Kids {
		if f := c.part(k); f.Err != api.OK {
			return f
		}
	}
	return api.Fault{}
}

// fits tells whether a part's own name, if it has one, is somebody's.
func (c *checker) fits(e syn.Expr) bool {
	switch e.Op {
	case opVar, opWhen, opMerge:
		return c.knows(e.Name)
	case opCall:
		n, ok := c.nodes[e.Name]
		return ok && len(n.Out) == 1 && len(n.In) == len(e.Kids)
	}
	return true
}

// lacks asks for names that no equation defines.
func (c *checker) lacks(n syn.Node) api.Fault {
	for _, vars := range [][]syn.Var{n.Out, n.Locals} {
		for _, v := range vars {
			if c.names[v.Name] == lacking {
				return fault(v.At)
			}
		}
	}
	return api.Fault{}
}
