package knit

import "tapestry/api"

// wrong is why a stitch is refused now.
func (m *Machine) wrong(x api.Stitch) api.Errno {
	switch {
	case x.Do < api.StitchKnit || x.Do > api.StitchRack:
		return api.ErrKind
	case m.done >= api.MaxStitches:
		return api.ErrMuch
	case x.Do == api.StitchRack:
		return wrongRack(x.To)
	case !m.has(place{x.Bed, x.Needle}):
		return api.ErrRange
	case usesCarrier(x.Do) && (x.Carrier < 0 || x.Carrier >= api.MaxCarriers):
		return api.ErrRange
	}
	return m.wrongNeedle(x.Do, place{x.Bed, x.Needle})
}

func wrongRack(to int) api.Errno {
	if to < -api.MaxRack || to > api.MaxRack {
		return api.ErrRange
	}
	return api.OK
}

// wrongNeedle is why what is to be done can't be done with a needle.
func (m *Machine) wrongNeedle(do int, p place) api.Errno {
	if do == api.StitchMove && !m.has(m.facing(p)) {
		return api.ErrRange
	}
	if needsLoop(do) && m.held(p) == 0 {
		return api.ErrNone
	}
	if m.willHold(do, p) > api.MaxHeld {
		return api.ErrMany
	}
	return api.OK
}

// willHold is how many loops the needle would hold to which they come. Only a tuck and a move can make them more than one.
func (m *Machine) willHold(do int, p place) int {
	switch do {
	case api.StitchTuck:
		return m.held(p) + 1
	case api.StitchMove:
		return m.held(m.facing(p)) + m.held(p)
	}
	return 0
}

// usesCarrier tells whether a kind names a carrier: one that passes by does, too.
func usesCarrier(do int) bool {
	return do == api.StitchKnit || do == api.StitchTuck || do == api.StitchMiss
}

func needsLoop(do int) bool {
	return do == api.StitchKnit || do == api.StitchMove || do == api.StitchDrop
}
