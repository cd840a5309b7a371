package fabric

import "tapestry/api"

// needle is where a needle is, or would be, of beds that are none, too.
type needle struct{ bed, place int }

// facing is the needle that faces another one. Places are not bounded here: what is too great wraps round.
func facing(n needle, rack int) needle {
	if n.bed == api.Front {
		return needle{api.Back, n.place - rack}
	}
	return needle{api.Front, n.place + rack}
}

// toDoWith are the needles with which a stitch has to do.
func toDoWith(x api.Stitch, rack int) []needle {
	own := needle{x.Bed, x.Needle}
	switch x.Do {
	case api.StitchMiss:
		return nil
	case api.StitchMove:
		return []needle{own, facing(own, rack)}
	}
	return []needle{own}
}

// meet tells whether there is a needle in both lists.
func meet(x, y []needle) bool {
	for _, n := range x {
		for _, other := range y {
			if n == other {
				return true
			}
		}
	}
	return false
}
