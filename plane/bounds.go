package plane

import "tapestry/api"

// wrongPoints is what is wrong with a grid and points of it.
func wrongPoints(g int, points ...api.Point) api.Errno {
	if g != api.Square && g != api.Hex {
		return api.ErrKind
	}
	if !within(points...) {
		return api.ErrRange
	}
	return api.OK
}

// wrongMoves is what is wrong with the first of some moves with which anything is.
func wrongMoves(g int, moves ...api.Move) api.Errno {
	for _, f := range moves {
		if err := Wrong(g, f); err != api.OK {
			return err
		}
	}
	return api.OK
}

// within tells whether all parts of some points keep to the bounds.
func within(points ...api.Point) bool {
	for _, p := range points {
		if !partWithin(p.X) || !partWithin(p.Y) {
			return false
		}
	}
	return true
}

func partWithin(n int) bool { return n >= -api.MaxPoint && n <= api.MaxPoint }

// bounded is a point that comes out of a call, if it keeps to the bounds.
func bounded(p api.Point) (api.Point, api.Errno) {
	if !within(p) {
		return api.Point{}, api.ErrMuch
	}
	return p, api.OK
}

// boundedMove is a move that comes out of a call, if its By keeps to the bounds.
func boundedMove(f api.Move) (api.Move, api.Errno) {
	if !within(f.By) {
		return api.Move{}, api.ErrMuch
	}
	return f, api.OK
}
