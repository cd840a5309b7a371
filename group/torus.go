package group

import (
	"tapestry/api"
	"tapestry/plane"
)

// torus is a pattern laid out over its whole torus. As that is as high as it is wide, all moves of the grid, turns too,
// take its points to each other, and what holds of them holds for ever.
type torus struct {
	grid, side int
	cells      []int // row by row
}

// torusOf is the torus of a chart, or what is wrong with it.
func torusOf(c api.Chart) (torus, api.Errno) {
	n, err := Torus(c)
	if err != api.OK {
		return torus{}, err
	}
	t := torus{grid: c.Grid, side: n}
	for y := range n {
		for x := range n {
			t.cells = append(t.cells, c.Cells[y%c.High*c.Wide+x%c.Wide])
		}
	}
	return t, api.OK
}

// leastMultiple is the least number above 0 that two numbers above 0 divide.
func leastMultiple(a, b int) int {
	n := a
	for n%b != 0 {
		n += a
	}
	return n
}

// point is the point whose cell is the i-th one.
func (t torus) point(i int) api.Point { return api.Point{X: i % t.side, Y: i / t.side} }

// onto is the point of the torus on which any point comes to lie.
func (t torus) onto(z api.Point) api.Point {
	return api.Point{X: modulo(z.X, t.side), Y: modulo(z.Y, t.side)}
}

// modulo is what Go's % is not: never below 0.
func modulo(n, side int) int { return (n%side + side) % side }

// cell is which cell is that of a point of the torus.
func (t torus) cell(z api.Point) int { return z.Y*t.side + z.X }

// cellBy is which cell is that of a point of the torus, moved by another one.
func (t torus) cellBy(z, by api.Point) int {
	return t.cell(api.Point{X: (z.X + by.X) % t.side, Y: (z.Y + by.Y) % t.side})
}

// images are, of each cell's point, where it comes to when it is mirrored and turned. By is left out: it may be so great
// that the plane's bounds are left, and on the torus it can be added later.
func (t torus) images(turn int, flip bool) []api.Point {
	f := api.Move{Turn: turn, Flip: flip}
	out := make([]api.Point, len(t.cells))
	for i := range out {
		z, _ := plane.Apply(t.grid, f, t.point(i)) // nothing is wrong with f, and a torus is far within the bounds
		out[i] = t.onto(z)
	}
	return out
}

// keeps tells whether all points, which have come to these images, stand on their own colours when they are moved by a
// point of the torus.
func (t torus) keeps(images []api.Point, by api.Point) bool {
	for i, z := range images {
		if t.cells[i] != t.cells[t.cellBy(z, by)] {
			return false
		}
	}
	return true
}

// moves are all moves by points of the torus that keep the pattern.
func (t torus) moves() []api.Move {
	var out []api.Move
	for _, flip := range [...]bool{false, true} {
		for turn := range t.grid {
			images := t.images(turn, flip)
			for i := range t.cells {
				by := t.point(i)
				if t.keeps(images, by) {
					out = append(out, api.Move{Turn: turn, Flip: flip, By: by})
				}
			}
		}
	}
	return out
}

// sideStep is the least step to the side that keeps the pattern: at the latest all the way round the torus.
func (t torus) sideStep() api.Point {
	still := t.images(0, false)
	x := 1
	for x < t.side && !t.keeps(still, api.Point{X: x}) {
		x++
	}
	return api.Point{X: x}
}

// upStep is the lowest step up that keeps the pattern, less far to the side than the least step there. No two of these
// are as high: the way from one to the other would be a lesser step to the side.
func (t torus) upStep(wide int) api.Point {
	still := t.images(0, false)
	for y := 1; y < t.side; y++ {
		for x := range wide {
			if t.keeps(still, api.Point{X: x, Y: y}) {
				return api.Point{X: x, Y: y}
			}
		}
	}
	return api.Point{Y: t.side}
}

// domain has each point that is the first one of all to which it can be taken. As moves can be undone and done one
// behind the other, a point that none of those ahead of it is taken to is taken to none of them.
func (t torus) domain() []api.Point {
	moves := t.moves()
	reached := make([]bool, len(t.cells))
	var out []api.Point
	for i := range t.cells {
		if reached[i] {
			continue
		}
		first := t.point(i)
		out = append(out, first)
		for _, f := range moves {
			z, _ := plane.Apply(t.grid, f, first) // By is a point of the torus, too: far within the bounds
			reached[t.cell(t.onto(z))] = true
		}
	}
	return out
}

// movedCells are the cells when each colour has gone where a move takes its point.
func (t torus) movedCells(f api.Move) []int {
	out := make([]int, len(t.cells))
	by := t.onto(f.By)
	for i, z := range t.images(f.Turn, f.Flip) {
		out[t.cellBy(z, by)] = t.cells[i]
	}
	return out
}
