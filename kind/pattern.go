package kind

import (
	"tapestry/api"
	"tapestry/group"
	"tapestry/plane"
)

// third is the Turn of triangles that is a third of the whole way round.
const third = 2

// pattern is a chart with what keeps it. Moves are those by points of the torus; all others are made of one of these and
// of the finest steps.
type pattern struct {
	chart    api.Chart
	moves    []api.Move
	side, up api.Point
}

// ways are what the flips of one Turn can be.
type ways struct{ mirrors, glides bool }

// patternOf is the pattern of a chart, or what is wrong with it.
func patternOf(c api.Chart) (pattern, api.Errno) {
	moves, err := group.Moves(c)
	if err != api.OK {
		return pattern{}, err
	}
	side, up, err := group.Finest(c)
	if err != api.OK {
		return pattern{}, err
	}
	return pattern{chart: c, moves: moves, side: side, up: up}, api.OK
}

// kind goes through the table of the kinds.
func (p pattern) kind() int {
	turns, flips := p.turns(), p.flips()
	if len(flips) == 0 {
		return withoutFlips(turns)
	}
	switch turns {
	case 1:
		return choose(flips, [4]int{api.PM, api.PG, api.CM, 0})
	case 2:
		return choose(flips, [4]int{api.PMM, api.PGG, api.CMM, api.PMG})
	case 3:
		if p.thirdsOnMirrors() {
			return api.P3M1
		}
		return api.P31M
	case 4:
		if mirrorsOfEach(flips) {
			return api.P4M
		}
		return api.P4G
	}
	return api.P6M
}

// withoutFlips is the kind of a pattern that is only turned.
func withoutFlips(turns int) int {
	kinds := [api.Hex + 1]int{1: api.P1, 2: api.P2, 3: api.P3, 4: api.P4, 6: api.P6}
	return kinds[turns]
}

// choose is the first of four kinds, if there are only mirrors; the second one, if only glides; the third one, if both
// of each Turn; else the last one.
func choose(flips map[int]ways, kinds [4]int) int {
	for i, w := range [...]ways{{mirrors: true}, {glides: true}, {mirrors: true, glides: true}} {
		if allAre(flips, w) {
			return kinds[i]
		}
	}
	return kinds[3]
}

// allAre tells whether the flips of each Turn have these ways, and no other ones.
func allAre(flips map[int]ways, w ways) bool {
	for _, have := range flips {
		if have != w {
			return false
		}
	}
	return true
}

// mirrorsOfEach tells whether there are mirrors of each Turn that has flips.
func mirrorsOfEach(flips map[int]ways) bool {
	for _, have := range flips {
		if !have.mirrors {
			return false
		}
	}
	return true
}

// turns is how many Turns the moves without Flip have.
func (p pattern) turns() int {
	n := 0
	for turn := range p.chart.Grid {
		if _, ok := p.first(turn, false); ok {
			n++
		}
	}
	return n
}

// first is the first move of a Turn, with Flip or without. Each other one of these is made of it and of a step: that
// which takes one to the other keeps the pattern too.
func (p pattern) first(turn int, flip bool) (api.Move, bool) {
	for _, f := range p.moves {
		if f.Turn == turn && f.Flip == flip {
			return f, true
		}
	}
	return api.Move{}, false
}

// behind are a move and all that come of it by less than count of each of the finest steps behind it.
func (p pattern) behind(f api.Move, count int) []api.Move {
	var out []api.Move
	for i := range count {
		for j := range count {
			g := f
			g.By.X += i*p.side.X + j*p.up.X
			g.By.Y += i*p.side.Y + j*p.up.Y
			out = append(out, g)
		}
	}
	return out
}

// flips are the ways of each Turn that has flips. None or one of each of the finest steps behind the first one is enough:
// a step that is twice behind a flip takes it further along its line by this step and its mirror image, which is a step
// that keeps the pattern.
func (p pattern) flips() map[int]ways {
	out := make(map[int]ways)
	for turn := range p.chart.Grid {
		f, ok := p.first(turn, true)
		if !ok {
			continue
		}
		var have ways
		for _, g := range p.behind(f, 2) {
			if p.isGlide(g) {
				have.glides = true
			} else {
				have.mirrors = true // it is one, or is made one by a step along its line
			}
		}
		out[turn] = have
	}
	return out
}

// isGlide tells whether no step along its line makes a mirror of a flip.
func (p pattern) isGlide(f api.Move) bool {
	twice := compose(p.chart.Grid, f, f)
	if twice == (api.Move{}) {
		return false
	}
	// Twice it is a step along its line: what makes it a mirror is half of that, the other way.
	back, ok := part(minus(api.Point{}, twice.By), 2)
	return !ok || !p.keeps(api.Move{By: back})
}

// thirdsOnMirrors tells whether each point round which the pattern can be turned by a third lies on a mirror's line. None
// to two of each of the finest steps behind the first turn are enough: a step that is thrice behind it takes its point
// further by this step and this step turned by a sixth, which keep the pattern.
func (p pattern) thirdsOnMirrors() bool {
	f, _ := p.first(third, false)
	for _, g := range p.behind(f, 3) {
		// The point z is w w z + By, so that 3 z is By times 1 + w: the point itself may be none of the grid.
		thrice, _ := plane.Times(p.chart.Grid, g.By, api.Point{X: 1, Y: 1}) // a few times the torus: far within the bounds
		if !p.onMirror(thrice) {
			return false
		}
	}
	return true
}

// onMirror tells whether a third of a point lies on a mirror's line. A flip that leaves it where it is is a mirror.
func (p pattern) onMirror(thrice api.Point) bool {
	for turn := range p.chart.Grid {
		f := api.Move{Turn: turn, Flip: true}
		image, _ := plane.Apply(p.chart.Grid, f, thrice) // nothing is wrong with f, and the point is as far within the bounds
		by, ok := part(minus(thrice, image), 3)
		if !ok {
			continue
		}
		f.By = by
		if p.keeps(f) {
			return true
		}
	}
	return false
}

// keeps tells whether a move that is within the bounds keeps the pattern.
func (p pattern) keeps(f api.Move) bool {
	is, _ := group.Keeps(p.chart, f)
	return is
}

// compose is f behind h, both of them far within the bounds.
func compose(grid int, f, h api.Move) api.Move {
	g, _ := plane.Compose(grid, f, h)
	return g
}

// minus is how far it is from b to a.
func minus(a, b api.Point) api.Point { return api.Point{X: a.X - b.X, Y: a.Y - b.Y} }

// part is an n-th part of a point, if it is a point of the grid.
func part(z api.Point, n int) (api.Point, bool) {
	if z.X%n != 0 || z.Y%n != 0 {
		return api.Point{}, false
	}
	return api.Point{X: z.X / n, Y: z.Y / n}, true
}
