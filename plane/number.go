package plane

import "tapestry/api"

// Here the grid is known to be one, and points to be so small that nothing wraps round.

func product(g int, a, b api.Point) api.Point {
	both := a.Y * b.Y // how many times i i, or w w
	p := api.Point{X: a.X*b.X - both, Y: a.X*b.Y + a.Y*b.X}
	if g == api.Hex {
		p.Y += both
	}
	return p
}

func mirrored(g int, a api.Point) api.Point {
	if g == api.Hex {
		return api.Point{X: a.X + a.Y, Y: -a.Y}
	}
	return api.Point{X: a.X, Y: -a.Y}
}

func norm(g int, a api.Point) int {
	return product(g, a, mirrored(g, a)).X
}

func turned(g int, a api.Point, turns int) api.Point {
	for range turns {
		a = product(g, a, api.Point{Y: 1})
	}
	return a
}

// upright is the one of a point's turned images that is told for all of them.
func upright(g int, a api.Point) api.Point {
	for range g {
		if a.X > 0 && a.Y >= 0 {
			return a
		}
		a = turned(g, a, 1)
	}
	return a
}

// remainder is what is left of a over b, which isn't 0. Its norm is at most three quarters of b's, as both parts of the
// quotient are at most a half off: so dividing comes to an end.
func remainder(g int, a, b api.Point) api.Point {
	n := norm(g, b)
	q := product(g, a, mirrored(g, b))
	q = api.Point{X: nearest(q.X, n), Y: nearest(q.Y, n)}
	p := product(g, q, b)
	return api.Point{X: a.X - p.X, Y: a.Y - p.Y}
}

// nearest is a whole number than which none is nearer to x over n, n above 0.
func nearest(x, n int) int {
	q, left := x/n, x%n
	switch {
	case 2*left > n:
		return q + 1
	case 2*left < -n:
		return q - 1
	}
	return q
}

func moved(g int, f api.Move, z api.Point) api.Point {
	if f.Flip {
		z = mirrored(g, z)
	}
	z = turned(g, z, f.Turn)
	return api.Point{X: z.X + f.By.X, Y: z.Y + f.By.Y}
}

func composed(g int, f, h api.Move) api.Move {
	turn := h.Turn
	if f.Flip { // mirrored turns go the other way round
		turn = g - turn
	}
	return api.Move{
		Turn: (f.Turn + turn) % g,
		Flip: f.Flip != h.Flip,
		By:   moved(g, f, h.By),
	}
}
