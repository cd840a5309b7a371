package group

import (
	"math"

	"tapestry/api"
)

// Here the promises are asked by their words, over a piece of the plane that is wider than a torus, with moves and points
// that are worked out here. All else is held against that.

const most = api.MaxPoint

var grids = []int{api.Square, api.Hex}

func at(x, y int) api.Point { return api.Point{X: x, Y: y} }

func modN(a, n int) int { return ((a % n) + n) % n }

// takes is where a move takes a point (chapter 1), without bounds.
func takes(g int, f api.Move, z api.Point) api.Point {
	x, y := z.X, z.Y
	if g == api.Square {
		if f.Flip {
			y = -y
		}
		for range f.Turn {
			x, y = -y, x
		}
	} else {
		if f.Flip {
			x, y = x+y, -y
		}
		for range f.Turn {
			x, y = -y, x+y
		}
	}
	return at(x+f.By.X, y+f.By.Y)
}

func torusByWords(c api.Chart) int {
	n := 1
	for n%c.Wide != 0 || n%c.High != 0 {
		n++
	}
	return n
}

// colourAt is what stands at a point, by the words of C1.
func colourAt(c api.Chart, z api.Point) int {
	return c.Cells[modN(z.Y, c.High)*c.Wide+modN(z.X, c.Wide)]
}

// window are the points of the torus, and of some rows and columns round it.
func window(n int) []api.Point {
	var out []api.Point
	for y := -2; y < n+2; y++ {
		for x := -2; x < n+2; x++ {
			out = append(out, at(x, y))
		}
	}
	return out
}

func keepsByWords(c api.Chart, f api.Move) bool {
	for _, z := range window(torusByWords(c)) {
		if colourAt(c, z) != colourAt(c, takes(c.Grid, f, z)) {
			return false
		}
	}
	return true
}

// torusPoints are the points of a torus in their order.
func torusPoints(n int) []api.Point {
	var out []api.Point
	for y := range n {
		for x := range n {
			out = append(out, at(x, y))
		}
	}
	return out
}

// movesBy are all moves of a grid by some points: without Flip first, by rising Turn, by the order of the points.
func movesBy(g int, by ...api.Point) []api.Move {
	var out []api.Move
	for _, flip := range []bool{false, true} {
		for turn := range g {
			for _, p := range by {
				out = append(out, api.Move{Turn: turn, Flip: flip, By: p})
			}
		}
	}
	return out
}

func movesByWords(c api.Chart) []api.Move {
	var out []api.Move
	for _, f := range movesBy(c.Grid, torusPoints(torusByWords(c))...) {
		if keepsByWords(c, f) {
			out = append(out, f)
		}
	}
	return out
}

func finestByWords(c api.Chart) (side, up api.Point) {
	side = at(1, 0)
	for !keepsByWords(c, api.Move{By: side}) {
		side.X++
	}
	for y := 1; ; y++ {
		for x := range side.X {
			if keepsByWords(c, api.Move{By: at(x, y)}) {
				return side, at(x, y)
			}
		}
	}
}

func ahead(a, b api.Point) bool { return a.Y < b.Y || a.Y == b.Y && a.X < b.X }

func domainByWords(c api.Chart, moves []api.Move) []api.Point {
	n := torusByWords(c)
	var out []api.Point
	for _, z := range torusPoints(n) {
		first := true
		for _, f := range moves {
			there := takes(c.Grid, f, z)
			first = first && !ahead(at(modN(there.X, n), modN(there.Y, n)), z)
		}
		if first {
			out = append(out, z)
		}
	}
	return out
}

// plain is a chart of one colour.
func plain(grid, wide, high int) api.Chart {
	return api.Chart{Grid: grid, Wide: wide, High: high, Cells: make([]int, wide*high)}
}

// unlike is a chart whose neighbours are unlike, and that nothing but steps keeps, if it isn't narrow.
func unlike(grid, wide, high int) api.Chart {
	c := plain(grid, wide, high)
	for i := range c.Cells {
		c.Cells[i] = (i*i + 3*i) / 2 % 61 % api.MaxColour
	}
	return c
}

// allOf are all charts of some colours and sides.
func allOf(grid, wide, high, colours int) []api.Chart {
	var out []api.Chart
	for n := range int(math.Pow(float64(colours), float64(wide*high))) {
		c := plain(grid, wide, high)
		for i := range c.Cells {
			c.Cells[i] = n % colours
			n /= colours
		}
		out = append(out, c)
	}
	return out
}

// small are charts of all kinds that can be held against the words in full.
func small() []api.Chart {
	var out []api.Chart
	for _, g := range grids {
		out = append(out, allOf(g, 1, 1, 3)...)
		out = append(out, allOf(g, 2, 2, 3)...)
		out = append(out, allOf(g, 3, 1, 3)...)
		out = append(out, allOf(g, 1, 4, 2)...)
		out = append(out, allOf(g, 2, 4, 2)...)
		out = append(out, allOf(g, 3, 3, 2)...)
		out = append(out, allOf(g, 3, 2, 2)...)
		out = append(out, allOf(g, 2, 3, 2)...)
		out = append(out, plain(g, 5, 5), plain(g, 2, 3), plain(g, 7, 1), plain(g, 4, 6))
		out = append(out, unlike(g, 5, 5), unlike(g, 4, 3), unlike(g, 3, 4), unlike(g, 8, 8), unlike(g, 2, 8), unlike(g, 6, 4))
	}
	for _, k := range kinds {
		out = append(out, coloured(k.grid, 6, k.made))
	}
	return out
}

// kinds are moves on a torus of 6 that make patterns of each of the seventeen kinds, and how many moves keep these.
var kinds = []struct {
	name  string
	grid  int
	moves int
	made  []api.Move
}{
	{"p1", api.Square, 1, nil},
	{"p1 of triangles", api.Hex, 1, nil},
	{"p2", api.Square, 2, []api.Move{{Turn: 2}}},
	{"p2 of triangles, elsewhere", api.Hex, 2, []api.Move{{Turn: 3, By: at(1, 2)}}},
	{"pm", api.Square, 2, []api.Move{{Flip: true}}},
	{"pg", api.Square, 2, []api.Move{{Flip: true, By: at(3, 0)}}},
	{"pg upright", api.Square, 2, []api.Move{{Turn: 2, Flip: true, By: at(1, 3)}}},
	{"cm", api.Square, 2, []api.Move{{Turn: 1, Flip: true}}},
	{"cm of triangles", api.Hex, 2, []api.Move{{Turn: 5, Flip: true}}},
	{"pmm", api.Square, 4, []api.Move{{Turn: 2}, {Flip: true}}},
	{"pmg", api.Square, 4, []api.Move{{Turn: 2}, {Flip: true, By: at(3, 0)}}},
	{"pgg", api.Square, 4, []api.Move{{Turn: 2}, {Flip: true, By: at(3, 3)}}},
	{"cmm", api.Square, 4, []api.Move{{Turn: 2}, {Turn: 3, Flip: true}}},
	{"cmm of triangles", api.Hex, 4, []api.Move{{Turn: 3}, {Turn: 1, Flip: true}}},
	{"p4", api.Square, 4, []api.Move{{Turn: 1, By: at(1, 0)}}},
	{"p4m", api.Square, 8, []api.Move{{Turn: 1}, {Flip: true}}},
	{"p4g", api.Square, 8, []api.Move{{Turn: 1}, {Flip: true, By: at(3, 3)}}},
	{"p3", api.Hex, 3, []api.Move{{Turn: 2, By: at(1, 0)}}},
	{"p3m1 or p31m", api.Hex, 6, []api.Move{{Turn: 2}, {Flip: true}}},
	{"p31m or p3m1", api.Hex, 6, []api.Move{{Turn: 2}, {Turn: 1, Flip: true}}},
	{"p6", api.Hex, 6, []api.Move{{Turn: 1}}},
	{"p6m", api.Hex, 12, []api.Move{{Turn: 1}, {Flip: true}}},
	// Where steps lie so close together, mirrors come by themselves.
	{"pm with a step to the side", api.Square, 6, []api.Move{{By: at(2, 0)}}},
	{"cm with a slanting step", api.Square, 12, []api.Move{{By: at(5, 1)}}},
	{"p2 with a slanting step", api.Hex, 6, []api.Move{{Turn: 3}, {By: at(2, 4)}}},
}

// coloured is the chart on which some moves take points to all points of their colour, and to no other ones.
func coloured(grid, n int, made []api.Move) api.Chart {
	c := plain(grid, n, n)
	for i := range c.Cells {
		c.Cells[i] = i
	}
	for changed := true; changed; {
		changed = false
		for i := range c.Cells {
			for _, f := range made {
				z := takes(grid, f, at(i%n, i/n))
				there := modN(z.Y, n)*n + modN(z.X, n)
				least := min(c.Cells[i], c.Cells[there])
				changed = changed || c.Cells[i] != c.Cells[there]
				c.Cells[i], c.Cells[there] = least, least
			}
		}
	}
	return c
}
