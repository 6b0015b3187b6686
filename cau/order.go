package cau

import (
	"container/heap"
	"sort"
)

// queue is those that could be next.
type queue struct{ sort.IntSlice }

// Push is for heap alone, as Pop is.
func (q *queue) Push(k any) { q.IntSlice = append(q.IntSlice, k.(int)) }

// Pop takes the last one.
func (q *queue) Pop() any {
	last := q.Len() - 1
	k := q.IntSlice[last]
	q.IntSlice = q.IntSlice[:last]
	return k
}

func (q *queue) put(k int) { heap.Push(q, k) }

// take takes the one declared first.
func (q *queue) take() int { return heap.Pop(q).(int) }

// order puts each behind those it leans on; whom a ring holds up is left out.
func (w web) order() []int {
	leaners := turned(w.leans)
	waits := make([]int, len(w.leans))
	next := &queue{}
	for k, l := range w.leans {
		waits[k] = len(l)
		if len(l) == 0 {
			next.put(k)
		}
	}
	var order []int
	for next.Len() > 0 {
		k := next.take()
		order = append(order, k)
		for _, m := range leaners[k] {
			waits[m]--
			if waits[m] == 0 {
				next.put(m)
			}
		}
	}
	return order
}
