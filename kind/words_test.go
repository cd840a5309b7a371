package kind

import (
	"math"

	"tapestry/api"
)

// Here the promises are asked by their words, with moves and points that are worked out here. All else is held against
// that.

var grids = []int{api.Square, api.Hex}

func at(x, y int) api.Point { return api.Point{X: x, Y: y} }

func modN(a, n int) int { return ((a % n) + n) % n }

// takes is where a move takes a point (chapter 1), without bounds.
func takes(g int, f api.Move, z api.Point) api.Point {
	x, y := z.X, z.Y
	if g == api.Square {
		if f.Flip {
			y = -y
		}
		for range f.Turn {
			x, y = -y, x
		}
	} else {
		if f.Flip {
			x, y = x+y, -y
		}
		for range f.Turn {
			x, y = -y, x+y
		}
	}
	return at(x+f.By.X, y+f.By.Y)
}

func torusByWords(c api.Chart) int {
	n := 1
	for n%c.Wide != 0 || n%c.High != 0 {
		n++
	}
	return n
}

// colourAt is what stands at a point, by the words of C1.
func colourAt(c api.Chart, z api.Point) int {
	return c.Cells[modN(z.Y, c.High)*c.Wide+modN(z.X, c.Wide)]
}

// kept is a chart's torus, and the moves by its points that keep the pattern. Another move keeps it, if that does whose
// By lies at the same place of the torus.
type kept struct {
	grid, n int
	moves   map[api.Move]bool
}

func keptByWords(c api.Chart) kept {
	k := kept{grid: c.Grid, n: torusByWords(c), moves: map[api.Move]bool{}}
	for _, flip := range []bool{false, true} {
		for turn := range c.Grid {
			for _, by := range square(0, k.n) {
				f := api.Move{Turn: turn, Flip: flip, By: by}
				if keepsByWords(c, k.n, f) {
					k.moves[f] = true
				}
			}
		}
	}
	return k
}

func keepsByWords(c api.Chart, n int, f api.Move) bool {
	for _, z := range square(0, n) {
		if colourAt(c, z) != colourAt(c, takes(c.Grid, f, z)) {
			return false
		}
	}
	return true
}

// square are all points whose parts are from from on below end.
func square(from, end int) []api.Point {
	var out []api.Point
	for y := from; y < end; y++ {
		for x := from; x < end; x++ {
			out = append(out, at(x, y))
		}
	}
	return out
}

func (k kept) keeps(f api.Move) bool {
	f.By = at(modN(f.By.X, k.n), modN(f.By.Y, k.n))
	return k.moves[f]
}

// of are all moves of a Turn that keep the pattern, By a point whose parts are from from on below end.
func (k kept) of(turn int, flip bool, from, end int) []api.Move {
	var out []api.Move
	for _, by := range square(from, end) {
		if f := (api.Move{Turn: turn, Flip: flip, By: by}); k.keeps(f) {
			out = append(out, f)
		}
	}
	return out
}

// isMirror: it moves nothing when it is done twice.
func (k kept) isMirror(f api.Move) bool {
	for _, z := range []api.Point{at(0, 0), at(1, 0), at(0, 1)} {
		if takes(k.grid, f, takes(k.grid, f, z)) != z {
			return false
		}
	}
	return true
}

// isGlide: of all steps that are not too long to make a mirror of it none that lies along its line does.
func (k kept) isGlide(f api.Move) bool {
	straight := api.Move{Turn: f.Turn, Flip: f.Flip}
	for _, step := range square(-3*k.n, 3*k.n+1) {
		if takes(k.grid, straight, step) != step || !k.keeps(api.Move{By: step}) {
			continue
		}
		g := f
		g.By = at(f.By.X+step.X, f.By.Y+step.Y)
		if k.isMirror(g) {
			return false
		}
	}
	return true
}

// turnsByWords: TURNS.
func (k kept) turnsByWords() int {
	n := 0
	for turn := range k.grid {
		n += min(1, len(k.of(turn, false, 0, k.n)))
	}
	return n
}

// flipsByWords: of how many Turns there are flips; of these with mirrors and without glides, with glides and without
// mirrors, and with both.
func (k kept) flipsByWords() (all, onlyMirrors, onlyGlides, both int) {
	for turn := range k.grid {
		mirrors, glides := 0, 0
		for _, f := range k.of(turn, true, -k.n, k.n) {
			if k.isMirror(f) {
				mirrors++
			}
			if k.isGlide(f) {
				glides++
			}
		}
		switch {
		case mirrors > 0 && glides > 0:
			both++
		case mirrors > 0:
			onlyMirrors++
		case glides > 0:
			onlyGlides++
		default:
			continue
		}
		all++
	}
	return all, onlyMirrors, onlyGlides, both
}

// thirdsByWords: how many of the points round which the pattern can be turned by a third lie on a mirror's line, and how
// many don't; each of them three times as far from 0 as it is, so that it is a point of the grid.
func (k kept) thirdsByWords() (on, off int) {
	var mirrors []api.Move
	for turn := range k.grid {
		for _, f := range k.of(turn, true, -4*k.n, 4*k.n) {
			if k.isMirror(f) {
				mirrors = append(mirrors, f)
			}
		}
	}
	for _, z := range square(-3*k.n, 3*k.n) { // all points that are not so far from 0 that lines through them are left out
		if !k.turnsRound(z) {
			continue
		}
		found := false
		for _, f := range mirrors {
			found = found || k.leavesThird(f, z)
		}
		if found {
			on++
		} else {
			off++
		}
	}
	return on, off
}

// turnsRound tells whether the pattern can be turned by a third round the point that is a third of z.
func (k kept) turnsRound(z api.Point) bool {
	for _, by := range square(-3*k.n, 3*k.n+1) {
		if f := (api.Move{Turn: 2, By: by}); k.leavesThird(f, z) && k.keeps(f) {
			return true
		}
	}
	return false
}

// leavesThird tells whether a move leaves a third of z where it is.
func (k kept) leavesThird(f api.Move, z api.Point) bool {
	f.By = at(3*f.By.X, 3*f.By.Y)
	return takes(k.grid, f, z) == z
}

// kindByWords is the table of K2.
func kindByWords(c api.Chart) int {
	k := keptByWords(c)
	turns := k.turnsByWords()
	all, onlyMirrors, onlyGlides, both := k.flipsByWords()
	if all == 0 {
		return map[int]int{1: api.P1, 2: api.P2, 3: api.P3, 4: api.P4, 6: api.P6}[turns]
	}
	switch {
	case turns == 6:
		return api.P6M
	case turns == 3:
		if _, off := k.thirdsByWords(); off == 0 {
			return api.P3M1
		}
		return api.P31M
	case turns == 4 && onlyMirrors+both == all:
		return api.P4M
	case turns == 4:
		return api.P4G
	case onlyMirrors == all:
		return map[int]int{1: api.PM, 2: api.PMM}[turns]
	case onlyGlides == all:
		return map[int]int{1: api.PG, 2: api.PGG}[turns]
	case both == all:
		return map[int]int{1: api.CM, 2: api.CMM}[turns]
	case turns == 2 && onlyMirrors == 1 && onlyGlides == 1:
		return api.PMG
	}
	return 0
}

// plain is a chart of one colour.
func plain(grid, wide, high int) api.Chart {
	return api.Chart{Grid: grid, Wide: wide, High: high, Cells: make([]int, wide*high)}
}

// rows is a chart of digits, its lowest row first.
func rows(grid int, l ...string) api.Chart {
	c := api.Chart{Grid: grid, Wide: len(l[0]), High: len(l)}
	for _, s := range l {
		for _, b := range []byte(s) {
			c.Cells = append(c.Cells, int(b-'0'))
		}
	}
	return c
}

// allOf are all charts of some colours and sides.
func allOf(grid, wide, high, colours int) []api.Chart {
	var out []api.Chart
	for n := range int(math.Pow(float64(colours), float64(wide*high))) {
		c := plain(grid, wide, high)
		for i := range c.Cells {
			c.Cells[i] = n % colours
			n /= colours
		}
		out = append(out, c)
	}
	return out
}

// coloured is the chart, n wide and n high, on which some moves take points to all points of their colour, and to no
// other ones. (Its colours are from 0 on without a gap; modulo colours, if there would be more.)
func coloured(grid, n, colours int, made []api.Move) api.Chart {
	c := plain(grid, n, n)
	for i := range c.Cells {
		c.Cells[i] = i
	}
	for changed := true; changed; {
		changed = false
		for i := range c.Cells {
			for _, f := range made {
				z := takes(grid, f, at(i%n, i/n))
				there := modN(z.Y, n)*n + modN(z.X, n)
				least := min(c.Cells[i], c.Cells[there])
				changed = changed || c.Cells[i] != c.Cells[there]
				c.Cells[i], c.Cells[there] = least, least
			}
		}
	}
	number := map[int]int{}
	for i, first := range c.Cells {
		if _, ok := number[first]; !ok {
			number[first] = len(number) % colours
		}
		c.Cells[i] = number[first]
	}
	return c
}

// laid is a chart laid out several times over.
func laid(c api.Chart, wide, high int) api.Chart {
	out := plain(c.Grid, c.Wide*wide, c.High*high)
	for i := range out.Cells {
		out.Cells[i] = colourAt(c, at(i%out.Wide, i/out.Wide))
	}
	return out
}

// moved is a chart, as wide and as high as its torus, whose pattern is another one's moved.
func moved(c api.Chart, f api.Move) api.Chart {
	n := torusByWords(c)
	out := plain(c.Grid, n, n)
	for _, z := range square(0, n) {
		there := takes(c.Grid, f, z)
		out.Cells[modN(there.Y, n)*n+modN(there.X, n)] = colourAt(c, z)
	}
	return out
}

// recoloured is a chart with other colours, each for each.
func recoloured(c api.Chart, factor, plus int) api.Chart {
	out := plain(c.Grid, c.Wide, c.High)
	for i, colour := range c.Cells {
		out.Cells[i] = (colour*factor + plus) % api.MaxColour
	}
	return out
}
