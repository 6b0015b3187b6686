package mean

import (
	"escapement/api"
	"escapement/syn"
)

// count is how many equations the last node has, with those of all calls within calls. Above the limit it stays one past
// it, for a few nodes that call one another can have more than any number holds.
func count(l []syn.Node) int {
	counts := map[string]int{}
	last := 0
	for _, n := range l {
		last = len(n.Eqs)
		for _, q := range n.Eqs {
			last += countCalled(counts, q.E)
		}
		last = min(last, api.MaxEqs+1)
		counts[n.Name] = last
	}
	return last
}

// countCalled is how many equations an expression's calls have.
func countCalled(counts map[string]int, e syn.Expr) int {
	sum := 0
	if e.Op == opCall {
		sum = counts[e.Name]
	}
	for _, kid := range e.Kids {
		sum += countCalled(counts, kid)
	}
	return sum
}
