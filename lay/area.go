package lay

import "tapestry/api"

// area is what a piece takes of the cloth: from left on, below right; from low on, below top.
type area struct{ left, right, low, top int }

// areaOf is for pieces that lie within the cloth: else their ends might wrap round.
func areaOf(p api.Piece, at api.Point) area {
	return area{left: at.X, right: at.X + p.Wide, low: at.Y, top: at.Y + p.High}
}

// within tells whether what is so long, begun there, ends by the limit. The beginning is bounded on both sides ahead of the difference, so that nothing wraps round.
func within(from, long, limit int) bool {
	return from >= 0 && from < limit && long <= limit-from
}

// meets tells whether two areas have a place in common.
func (a area) meets(b area) bool {
	return a.left < b.right && b.left < a.right && a.low < b.top && b.low < a.top
}

// meetsOne tells whether an area has a place in common with one of others.
func meetsOne(a area, others []area) bool {
	for _, b := range others {
		if a.meets(b) {
			return true
		}
	}
	return false
}
