// Package plane has the whole numbers of Gauss and of Eisenstein, and what maps the plane onto itself: see doc/01-plane.md.
package plane

import "tapestry/api"

// Times is the product of two points.
func Times(g int, a, b api.Point) (api.Point, api.Errno) {
	if err := wrongPoints(g, a, b); err != api.OK {
		return api.Point{}, err
	}
	return bounded(product(g, a, b))
}

// Norm is how far a point is from 0, squared.
func Norm(g int, a api.Point) (int, api.Errno) {
	if err := wrongPoints(g, a); err != api.OK {
		return 0, err
	}
	return norm(g, a), api.OK
}

// Gcd is the greatest point that divides two: of those that differ by turns alone that with X above 0 and Y not below it.
func Gcd(g int, a, b api.Point) (api.Point, api.Errno) {
	if err := wrongPoints(g, a, b); err != api.OK {
		return api.Point{}, err
	}
	for b != (api.Point{}) {
		a, b = b, remainder(g, a, b)
	}
	// A divisor never leaves the bounds that its multiple keeps to: with X and Y not below 0 a part is at most the
	// root of the norm, which is at most MaxPoint for all but the multiple itself, and that only has its parts
	// exchanged, negated or taken from each other.
	return upright(g, a), api.OK
}

// Wrong is what is wrong with a move.
func Wrong(g int, f api.Move) api.Errno {
	if err := wrongPoints(g, f.By); err != api.OK {
		return err
	}
	if f.Turn < 0 || f.Turn >= g {
		return api.ErrRange
	}
	return api.OK
}

// Apply is where a move takes a point.
func Apply(g int, f api.Move, z api.Point) (api.Point, api.Errno) {
	if err := Wrong(g, f); err != api.OK {
		return api.Point{}, err
	}
	if err := wrongPoints(g, z); err != api.OK {
		return api.Point{}, err
	}
	return bounded(moved(g, f, z))
}

// Compose is the move that does h, and then f.
func Compose(g int, f, h api.Move) (api.Move, api.Errno) {
	if err := wrongMoves(g, f, h); err != api.OK {
		return api.Move{}, err
	}
	return boundedMove(composed(g, f, h))
}

// Inverse undoes a move.
func Inverse(g int, f api.Move) (api.Move, api.Errno) {
	if err := Wrong(g, f); err != api.OK {
		return api.Move{}, err
	}
	back := api.Move{Turn: f.Turn, Flip: f.Flip}
	if !f.Flip { // a mirrored plane turns the other way round: the same turn undoes itself
		back.Turn = (g - f.Turn) % g
	}
	by := moved(g, back, f.By)
	back.By = api.Point{X: -by.X, Y: -by.Y}
	return boundedMove(back)
}

// Order is how often a move must be done to move nothing (0: it never is so).
func Order(g int, f api.Move) (int, api.Errno) {
	if err := Wrong(g, f); err != api.OK {
		return 0, err
	}
	// No point comes out of this call, so the bounds do not hold on the way. What is not over after g times never is:
	// turns come round after g of them, and what moves something then is a step, which goes on for ever.
	all := f
	for n := range g {
		if all == (api.Move{}) {
			return n + 1, api.OK
		}
		all = composed(g, f, all)
	}
	return 0, api.OK
}
