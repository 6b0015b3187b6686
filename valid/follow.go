package valid

import (
	"slices"

	"escapement/code"
	"escapement/op"
)

// set is the slots that were written, and behind them the outputs, a bit each.
type set []uint64

func newSet(size int) set { return make(set, size/64+1) }

func (s set) add(k int) { s[k/64] |= 1 << (k % 64) }

func (s set) has(k int) bool { return s[k/64]>>(k%64)&1 == 1 }

// ways are what was written on each way that comes to an instruction, or to the end; nil where none comes.
type ways []set

// meet lets one way more come there.
func (w ways) meet(pc int, s set) {
	if w[pc] == nil {
		w[pc] = slices.Clone(s)
		return
	}
	for k := range w[pc] {
		w[pc][k] &= s[k]
	}
}

// follow asks what was written ahead. All targets are behind: so each instruction comes when all ways to it were gone, and
// some way comes to the end, as each leads on.
func follow(p code.Program) (Fault, bool) {
	w := make(ways, len(p.Code)+1)
	w[0] = newSet(len(p.Slots) + len(p.Outs))
	for pc, i := range p.Code {
		if w[pc] == nil {
			continue
		}
		if !isRead(i, w[pc]) {
			return Fault{pc, ruleReads}, false
		}
		w.step(p, pc, i)
	}
	for k := range p.Outs {
		if !w[len(p.Code)].has(len(p.Slots) + k) {
			return Fault{len(p.Code), ruleOutputs}, false
		}
	}
	return Fault{}, true
}

// isRead tells whether all that an instruction reads was written.
func isRead(i code.Instr, s set) bool {
	for k, v := range operands(i) {
		if roles[i.Op][k] == read && !s.has(v) {
			return false
		}
	}
	return true
}

// step goes on from an instruction to all that may come next.
func (w ways) step(p code.Program, pc int, i code.Instr) {
	s := w[pc]
	switch roles[i.Op][0] {
	case target:
		w.meet(i.A, s)
	case written:
		s.add(i.A)
	case output:
		s.add(len(p.Slots) + i.A)
	}
	if i.Op != op.Jump {
		w.meet(pc+1, s)
	}
}
