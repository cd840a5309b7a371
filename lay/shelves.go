package lay

import (
	"cmp"
	"slices"

	"tapestry/api"
)

// shelves lie one on top of the other. As no piece has room ahead of the first shelf, the first one begins it.
type shelves struct {
	wide  int
	room  int // what is left of the last shelf to the side
	floor int // where the last shelf begins
	top   int // where the next one would
}

// lay tells where a piece begins that is laid behind all others. None of those is lower, so that a shelf is as high as the piece that begins it.
func (s *shelves) lay(p api.Piece) api.Point {
	if p.Wide > s.room {
		s.room = s.wide
		s.floor = s.top
		s.top += p.High
	}
	at := api.Point{X: s.wide - s.room, Y: s.floor}
	s.room -= p.Wide
	return at
}

// highestFirst are the places of pieces in their list, in the order in which they are laid.
func highestFirst(l []api.Piece) []int {
	order := make([]int, len(l))
	for i := range order {
		order[i] = i
	}
	slices.SortStableFunc(order, func(one, other int) int {
		return cmp.Compare(l[other].High, l[one].High)
	})
	return order
}
