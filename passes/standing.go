package passes

import "tapestry/api"

// standing is on which needle each loop stands. Places behind the last loop stay 0, so that the same standing is the same key.
type standing [api.MaxMoved]int

func standingOn(needles []int) standing {
	var out standing
	copy(out[:], needles)
	return out
}

// behind is how loops stand behind a pass.
func behind(at standing, p api.Pass) standing {
	for i := range at {
		if p.Which>>i&1 == 1 {
			at[i] += p.By
		}
	}
	return at
}

// mayStand tells whether loops that go to those in to may stand so. Needles are bounded ahead of how far they are apart, so that nothing wraps round.
func mayStand(at, to []int, slack int) bool {
	for i, needle := range at {
		if needle < 0 || needle >= api.MaxPlaces {
			return false
		}
		if i > 0 && !mayFollow(needle-at[i-1], to[i] == to[i-1], slack) {
			return false
		}
	}
	return true
}

// mayFollow tells whether a loop may stand so far to the right of the one ahead of it.
func mayFollow(apart int, sameEnd bool, slack int) bool {
	if apart == 0 {
		return sameEnd
	}
	return apart > 0 && apart <= slack
}

// shareNeedle tells whether two neighbours stand on one needle.
func shareNeedle(at []int) bool {
	for i := range at {
		if i > 0 && at[i] == at[i-1] {
			return true
		}
	}
	return false
}
