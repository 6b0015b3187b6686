package cau

import "slices"

// ringed tells of each whether it leans on itself, by way of others, too. It is not enough to know whom a ring holds up:
// who leans on a ring, or stands between two, is in none. So it parts all into groups that lean on one another: nobody
// but its own group leans, even by way of others, on the one that was left last; so the way back from it leads to these
// alone, and so on with those who remain.
func (w web) ringed() []bool {
	var all []int
	for k := range w.names {
		all = append(all, k)
	}
	left := slices.Concat(trees(w.leans, all)...)
	slices.Reverse(left)
	ringed := make([]bool, len(w.names))
	for _, group := range trees(turned(w.leans), left) {
		for _, k := range group {
			ringed[k] = len(group) > 1 || slices.Contains(w.leans[k], k)
		}
	}
	return ringed
}

// trees goes from each root on, and tells whom it comes to by way of those to whom no root ahead came: each when it is
// left, behind all to whom it leads. It keeps its way itself, for a row of names may be far longer than expressions are
// deep.
func trees(next [][]int, roots []int) [][]int {
	seen := make([]bool, len(next))
	gone := make([]int, len(next)) // how many of its next ones were looked at
	var all [][]int
	for _, root := range roots {
		if seen[root] {
			continue
		}
		seen[root] = true
		way := []int{root}
		var tree []int
		for len(way) > 0 {
			k := way[len(way)-1]
			if gone[k] == len(next[k]) {
				tree = append(tree, k)
				way = way[:len(way)-1]
				continue
			}
			m := next[k][gone[k]]
			gone[k]++
			if !seen[m] {
				seen[m] = true
				way = append(way, m)
			}
		}
		all = append(all, tree)
	}
	return all
}
