package mach

import (
	"slices"

	"escapement/api"
	"escapement/pack"
	"escapement/sha"
)

// maxTicks is how many ticks a state that is loaded may have.
const maxTicks = 1 << 62

// State tells where it stands.
func (m *Machine) State() []byte {
	b := pack.U(nil, uint64(m.ticks))
	b = pack.U(b, uint64(len(m.mems)))
	for _, v := range m.mems {
		// Put behind b here, not by pack, which would copy all of b each time.
		b = append(b, pack.I(nil, v)...)
	}
	return b
}

// Load lets it stand there.
func (m *Machine) Load(state []byte) api.Errno {
	r := pack.Read(state)
	ticks, count := r.U(), r.U()
	if ticks > maxTicks || count != uint64(len(m.mems)) {
		return api.EFORM
	}
	mems := make([]int64, len(m.mems))
	for k := range mems {
		mems[k] = r.I()
	}
	// Asked here alone, as a Reader that could not read something is bad for ever.
	if r.Bad() || r.Left() > 0 || !slices.EqualFunc(m.p.Mems, mems, isOf) {
		return api.EFORM
	}
	m.mems, m.ticks = mems, int64(ticks)
	return api.OK
}

// Digest tells its state's digest.
func (m *Machine) Digest() [32]byte { return sha.Of(m.State()) }
