package knit

import (
	"slices"

	"tapestry/api"
)

// place is where a needle is, if there is one.
type place struct{ bed, needle int }

// has tells whether there is such a needle.
func (m *Machine) has(p place) bool {
	return p.bed >= 0 && p.bed < len(m.beds) && p.needle >= 0 && p.needle < len(m.beds[p.bed])
}

// facing is where the needle that faces another one would be.
func (m *Machine) facing(p place) place {
	if p.bed == api.Front {
		return place{api.Back, p.needle - m.rack}
	}
	return place{api.Front, p.needle + m.rack}
}

// held is how many loops a needle holds.
func (m *Machine) held(p place) int { return len(m.beds[p.bed][p.needle]) }

// take takes all loops off a needle. The list is the taker's: the needle begins a new one.
func (m *Machine) take(p place) []int {
	loops := m.beds[p.bed][p.needle]
	m.beds[p.bed][p.needle] = nil
	return loops
}

// hang lets loops come to a needle.
func (m *Machine) hang(p place, loops []int) {
	m.beds[p.bed][p.needle] = append(m.beds[p.bed][p.needle], loops...)
}

// pull makes a loop, pulled through others, which comes to a needle. The list of the others is kept.
func (m *Machine) pull(p place, carrier int, through []int) {
	m.hang(p, []int{len(m.loops)})
	m.loops = append(m.loops, api.Loop{Carrier: carrier, Through: through})
}

// copyLoops copies loops with their lists, as an answer shares no memory with the machine.
func copyLoops(loops []api.Loop) []api.Loop {
	out := slices.Clone(loops)
	for i := range out {
		out[i].Through = slices.Clone(out[i].Through)
	}
	return out
}

// copyBed copies what the needles of a bed hold, for the same reason.
func copyBed(bed [][]int) [][]int {
	out := slices.Clone(bed)
	for i := range out {
		out[i] = slices.Clone(out[i])
	}
	return out
}
