package group

import (
	"math"
	"reflect"
	"slices"
	"testing"

	"tapestry/api"
)

// calls are all calls of the package, as functions that tell the error, and whether all else is zero.
func calls(c api.Chart, f api.Move) map[string]func() (api.Errno, bool) {
	return map[string]func() (api.Errno, bool){
		"Torus":  func() (api.Errno, bool) { n, err := Torus(c); return err, n == 0 },
		"Moves":  func() (api.Errno, bool) { l, err := Moves(c); return err, len(l) == 0 },
		"Keeps":  func() (api.Errno, bool) { is, err := Keeps(c, f); return err, !is },
		"Finest": func() (api.Errno, bool) { s, u, err := Finest(c); return err, s == api.Point{} && u == api.Point{} },
		"Domain": func() (api.Errno, bool) { l, err := Domain(c); return err, len(l) == 0 },
		"Moved": func() (api.Errno, bool) {
			m, err := Moved(c, f)
			return err, m.Grid == 0 && m.Wide == 0 && m.High == 0 && len(m.Cells) == 0
		},
	}
}

// tell holds the error of each call of a chart and a move against the one that is wanted, and that nothing stands beside it.
func tell(t *testing.T, what string, c api.Chart, f api.Move, want api.Errno) {
	t.Helper()
	for name, call := range calls(c, f) {
		if err, zero := call(); err != want || zero != (want != api.OK) {
			t.Errorf("%s: %s tells %d, zero %v, not %d", what, name, err, zero, want)
		}
	}
}

// wrongCharts are charts with each thing that can be wrong with one, and what that is.
var wrongCharts = []struct {
	name string
	c    api.Chart
	want api.Errno
}{
	{"no chart", api.Chart{}, api.ErrKind},
	{"grid 3", plain(3, 2, 2), api.ErrKind},
	{"grid 5", plain(5, 2, 2), api.ErrKind},
	{"grid -6", plain(-6, 2, 2), api.ErrKind},
	{"no width", plain(api.Square, 0, 2), api.ErrRange},
	{"no height", plain(api.Hex, 2, 0), api.ErrRange},
	{"sides below 0", api.Chart{Grid: api.Square, Wide: -2, High: -2, Cells: make([]int, 4)}, api.ErrRange},
	{"too wide", plain(api.Square, api.MaxSide+1, 1), api.ErrRange},
	{"too high", plain(api.Hex, 1, api.MaxSide+1), api.ErrRange},
	{"sides that wrap round", api.Chart{Grid: api.Hex, Wide: math.MinInt, High: 2}, api.ErrRange},
	{"greatest sides", api.Chart{Grid: api.Hex, Wide: math.MaxInt, High: math.MaxInt}, api.ErrRange},
	{"no cells", api.Chart{Grid: api.Square, Wide: 2, High: 2}, api.ErrFit},
	{"empty cells", api.Chart{Grid: api.Square, Wide: 1, High: 1, Cells: []int{}}, api.ErrFit},
	{"a cell too few", api.Chart{Grid: api.Hex, Wide: 2, High: 2, Cells: make([]int, 3, 4)}, api.ErrFit},
	{"a cell too many", api.Chart{Grid: api.Hex, Wide: 2, High: 2, Cells: make([]int, 5)}, api.ErrFit},
	{"a colour below 0", api.Chart{Grid: api.Square, Wide: 2, High: 1, Cells: []int{0, -1}}, api.ErrRange},
	{"a colour too great", api.Chart{Grid: api.Square, Wide: 2, High: 1, Cells: []int{api.MaxColour, 0}}, api.ErrRange},
	// All that is wrong with a chart is told ahead of a torus that is too great.
	{"a great torus without a grid", plain(0, 25, 25), api.ErrKind},
	{"a great torus, too wide", plain(api.Square, api.MaxSide+1, 25), api.ErrRange},
	{"a great torus without cells", api.Chart{Grid: api.Square, Wide: 5, High: 7}, api.ErrFit},
	{"a great torus with a wrong colour", api.Chart{Grid: api.Square, Wide: 25, High: 1, Cells: slices.Repeat([]int{62}, 25)}, api.ErrRange},
}

// wrongMoves are moves with each thing that can be wrong with one on a grid.
func wrongMoves(g int) []api.Move {
	var out []api.Move
	for _, turn := range []int{math.MinInt, -g, -1, g, g + 1, math.MaxInt} {
		out = append(out, api.Move{Turn: turn}, api.Move{Turn: turn, Flip: true})
	}
	for _, n := range []int{math.MinInt, -most - 1, most + 1, math.MaxInt} {
		out = append(out, api.Move{By: at(n, 0)}, api.Move{By: at(0, n)}, api.Move{Turn: g - 1, Flip: true, By: at(n, n)})
		out = append(out, api.Move{Turn: g, By: at(n, n)})
	}
	return out
}

func TestG1WrongChart(t *testing.T) {
	for _, x := range wrongCharts {
		tell(t, x.name, x.c, api.Move{}, x.want)
		for _, f := range wrongMoves(api.Hex) { // a chart is asked ahead of a move
			tell(t, x.name+", wrong move", x.c, f, x.want)
		}
	}
}

func TestG1TorusOfAllSides(t *testing.T) {
	for _, g := range grids {
		for wide := 1; wide <= api.MaxSide; wide++ {
			for high := 1; high <= api.MaxSide; high++ {
				c := plain(g, wide, high)
				want, wantErr := torusByWords(c), api.OK
				if want > api.MaxTorus {
					want, wantErr = 0, api.ErrMuch
				}
				if n, err := Torus(c); n != want || err != wantErr {
					t.Errorf("%d by %d: %d %d, not %d %d", wide, high, n, err, want, wantErr)
				}
			}
		}
	}
}

func TestG1TorusKnown(t *testing.T) {
	for _, x := range []struct {
		wide, high, n int
		err           api.Errno
	}{
		{1, 1, 1, api.OK},
		{7, 7, 7, api.OK},
		{3, 12, 12, api.OK},
		{12, 3, 12, api.OK},
		{4, 6, 12, api.OK},
		{5, 4, 20, api.OK},
		{23, 23, 23, api.OK},
		{24, 24, 24, api.OK},
		{24, 1, 24, api.OK},
		{1, 24, 24, api.OK},
		{3, 8, 24, api.OK},
		{8, 12, 24, api.OK},
		{25, 25, 0, api.ErrMuch},
		{25, 1, 0, api.ErrMuch},
		{5, 25, 0, api.ErrMuch},
		{2, 13, 0, api.ErrMuch},
		{9, 6, 18, api.OK},
		{9, 12, 0, api.ErrMuch},
		{64, 63, 0, api.ErrMuch},
		{64, 64, 0, api.ErrMuch},
	} {
		for _, g := range grids {
			c := unlike(g, x.wide, x.high)
			if n, err := Torus(c); n != x.n || err != x.err {
				t.Errorf("%d by %d: %d %d, not %d %d", x.wide, x.high, n, err, x.n, x.err)
			}
			tell(t, "of a known torus", c, api.Move{}, x.err)
		}
	}
}

func TestG1MuchIsToldAheadOfTheMove(t *testing.T) {
	for _, g := range grids {
		for _, side := range []api.Point{at(25, 1), at(1, 25), at(25, 25), at(5, 6), at(64, 64), at(63, 64)} {
			for _, c := range []api.Chart{plain(g, side.X, side.Y), unlike(g, side.X, side.Y)} {
				tell(t, "a great torus", c, api.Move{}, api.ErrMuch)
				for _, f := range wrongMoves(g) {
					tell(t, "a great torus, wrong move", c, f, api.ErrMuch)
				}
			}
		}
	}
}

func TestG2And4WrongMove(t *testing.T) {
	for _, g := range grids {
		for _, c := range []api.Chart{plain(g, 1, 1), unlike(g, 3, 4), plain(g, 24, 24)} {
			for _, f := range wrongMoves(g) {
				if is, err := Keeps(c, f); is || err != api.ErrRange {
					t.Errorf("Keeps on the grid %d, %v: %v %d", g, f, is, err)
				}
				if m, err := Moved(c, f); !reflect.DeepEqual(m, api.Chart{}) || err != api.ErrRange {
					t.Errorf("Moved on the grid %d, %v: %v %d", g, f, m, err)
				}
			}
		}
	}
	// A turn that Hex has and Square has not.
	for turn := api.Square; turn < api.Hex; turn++ {
		f := api.Move{Turn: turn}
		_, err1 := Keeps(plain(api.Square, 2, 2), f)
		_, err2 := Moved(plain(api.Square, 2, 2), f)
		_, err3 := Keeps(plain(api.Hex, 2, 2), f)
		_, err4 := Moved(plain(api.Hex, 2, 2), f)
		if err1 != api.ErrRange || err2 != api.ErrRange || err3 != api.OK || err4 != api.OK {
			t.Errorf("Turn %d: %d %d, of triangles %d %d", turn, err1, err2, err3, err4)
		}
	}
}

// somewhere are steps within a torus, below 0, beyond it, and at the bounds of moves.
func somewhere(n int) []api.Point {
	return []api.Point{
		at(0, 0), at(1, 0), at(0, 1), at(n-1, n-1), at(n, 0), at(0, n), at(-1, 0), at(0, -1), at(-n, n), at(-n-1, 2*n+1), at(3*n+2, -5*n-1),
		at(most, 0), at(-most, 0), at(0, most), at(0, -most), at(most, most), at(-most, -most), at(most-1, 1-most),
		at(most/n*n, -most/n*n), at(most/n*n+1-n, 1-most/n*n), // multiples of the torus, and next to them
	}
}

func TestG2KeepsByItsWords(t *testing.T) {
	for _, c := range small() {
		for _, f := range movesBy(c.Grid, somewhere(torusByWords(c))...) {
			want := keepsByWords(c, f)
			if is, err := Keeps(c, f); is != want || err != api.OK {
				t.Fatalf("%v, %v: %v %d, not %v", c, f, is, err, want)
			}
		}
	}
}

func TestG2KeepsAtTheBounds(t *testing.T) {
	// MaxPoint leaves 1 when it is divided by 3 or by 5, 16 when by 24; -MaxPoint leaves 2, 4 and 8.
	for _, x := range []struct {
		wide, high int
		by         api.Point
		want       bool
	}{
		{3, 1, at(most, 0), false},
		{3, 1, at(most-1, 0), true},
		{3, 1, at(1-most, 0), true},
		{3, 1, at(2-most, 0), false},
		{3, 1, at(0, most), true},
		{1, 3, at(-most, -most), false},
		{1, 3, at(-most, 1-most), true},
		{4, 4, at(most, -most), true},
		{4, 4, at(most-1, -most), false},
		{5, 1, at(most-1, most), true},
		{24, 24, at(most-16, 16-most), true},
		{24, 24, at(most, most), false},
		{24, 24, at(8-most, 0), false},
	} {
		for _, g := range grids {
			c := unlike(g, x.wide, x.high)
			if is, err := Keeps(c, api.Move{By: x.by}); is != x.want || err != api.OK {
				t.Errorf("%d by %d, by %v: %v %d", x.wide, x.high, x.by, is, err)
			}
			// A chart of one colour is kept by all moves.
			for _, f := range movesBy(g, x.by) {
				if is, err := Keeps(plain(g, x.wide, x.high), f); !is || err != api.OK {
					t.Errorf("%d by %d of one colour, %v: %v %d", x.wide, x.high, f, is, err)
				}
			}
		}
	}
}

func TestG2MovesByTheirWords(t *testing.T) {
	charts := small()
	for _, g := range grids {
		charts = append(charts, unlike(g, 24, 24), unlike(g, 8, 3), unlike(g, 3, 8), unlike(g, 24, 1), unlike(g, 23, 23), unlike(g, 5, 4))
	}
	for _, c := range charts {
		want := movesByWords(c)
		if got, err := Moves(c); !slices.Equal(got, want) || err != api.OK {
			t.Fatalf("%v: %v %d, not %v", c, got, err, want)
		}
	}
}

func TestG2MovesOfEachKind(t *testing.T) {
	for _, k := range kinds {
		c := coloured(k.grid, 6, k.made)
		got, err := Moves(c)
		if len(got) != k.moves || err != api.OK {
			t.Errorf("%s: %d moves, %d, not %d: %v", k.name, len(got), err, k.moves, got)
		}
		for _, f := range k.made {
			if !slices.Contains(got, f) {
				t.Errorf("%s: %v is not among %v", k.name, f, got)
			}
		}
	}
}

func TestG2MovesKnown(t *testing.T) {
	stripes := api.Chart{Grid: api.Square, Wide: 2, High: 1, Cells: []int{0, 1}}
	want := []api.Move{
		{}, {By: at(0, 1)},
		{Turn: 2}, {Turn: 2, By: at(0, 1)},
		{Flip: true}, {Flip: true, By: at(0, 1)},
		{Turn: 2, Flip: true}, {Turn: 2, Flip: true, By: at(0, 1)},
	}
	if got, err := Moves(stripes); !slices.Equal(got, want) || err != api.OK {
		t.Errorf("stripes: %v %d", got, err)
	}
	glides := api.Chart{Grid: api.Square, Wide: 4, High: 4, Cells: []int{0, 1, 0, 1, 2, 3, 4, 5, 6, 7, 6, 7, 4, 5, 2, 3}}
	want = []api.Move{{}, {Flip: true, By: at(2, 0)}}
	if got, err := Moves(glides); !slices.Equal(got, want) || err != api.OK {
		t.Errorf("glides: %v %d", got, err)
	}
	if got, err := Moves(unlike(api.Hex, 5, 5)); !slices.Equal(got, []api.Move{{}}) || err != api.OK {
		t.Errorf("nothing but no step at all: %v %d", got, err)
	}
}

func TestG2AllMovesKeepOneColour(t *testing.T) {
	for _, g := range grids {
		for _, side := range []api.Point{at(1, 1), at(1, 2), at(5, 4), at(24, 24), at(8, 3), at(23, 1)} {
			c := plain(g, side.X, side.Y)
			want := movesBy(g, torusPoints(torusByWords(c))...)
			if got, err := Moves(c); !slices.Equal(got, want) || err != api.OK {
				t.Errorf("%v on the grid %d: %d moves, %d, not %d", side, g, len(got), err, len(want))
			}
		}
	}
}

func TestG3FinestByItsWords(t *testing.T) {
	charts := small()
	for _, g := range grids {
		charts = append(charts, unlike(g, 24, 24), unlike(g, 8, 3), unlike(g, 3, 8), unlike(g, 24, 1), unlike(g, 1, 24), plain(g, 24, 24))
	}
	for _, c := range charts {
		side, up := finestByWords(c)
		if gotSide, gotUp, err := Finest(c); gotSide != side || gotUp != up || err != api.OK {
			t.Fatalf("%v: %v %v %d, not %v %v", c, gotSide, gotUp, err, side, up)
		}
	}
}

// slanting is a chart whose rows are each moved to the side, by so much from the one below.
func slanting(grid, n, by int) api.Chart {
	c := plain(grid, n, n)
	for i := range c.Cells {
		c.Cells[i] = modN(i%n-i/n*by, n)
	}
	return c
}

func TestG3FinestKnown(t *testing.T) {
	for _, g := range grids {
		for _, x := range []struct {
			name     string
			c        api.Chart
			side, up api.Point
		}{
			{"one cell", plain(g, 1, 1), at(1, 0), at(0, 1)},
			{"one colour", plain(g, 24, 24), at(1, 0), at(0, 1)},
			{"as long as the torus, both", unlike(g, 5, 5), at(5, 0), at(0, 5)},
			{"as long as the greatest torus, both", unlike(g, 24, 24), at(24, 0), at(0, 24)},
			{"shorter than the torus, both", unlike(g, 8, 3), at(8, 0), at(0, 3)},
			{"upright stripes", unlike(g, 24, 1), at(24, 0), at(0, 1)},
			{"stripes to the side", unlike(g, 1, 24), at(1, 0), at(0, 24)},
			{"a slant of 1", slanting(g, 24, 1), at(24, 0), at(1, 1)},
			{"a slant just below the side", slanting(g, 24, 23), at(24, 0), at(23, 1)},
			{"a slant just below a small side", slanting(g, 2, 1), at(2, 0), at(1, 1)},
			{"a slant in the midst", slanting(g, 9, 4), at(9, 0), at(4, 1)},
			{"a row of another colour between", api.Chart{Grid: g, Wide: 3, High: 6, Cells: []int{0, 1, 1, 2, 2, 2, 1, 1, 0, 2, 2, 2, 1, 0, 1, 2, 2, 2}}, at(3, 0), at(2, 2)},
		} {
			if side, up, err := Finest(x.c); side != x.side || up != x.up || err != api.OK {
				t.Errorf("%s on the grid %d: %v %v %d", x.name, g, side, up, err)
			}
		}
	}
}

func TestG3FinestMakesAllSteps(t *testing.T) {
	for _, c := range small() {
		n, _ := Torus(c)
		side, up, _ := Finest(c)
		moves, _ := Moves(c)
		steps := 0
		for _, f := range moves {
			if f.Turn != 0 || f.Flip {
				continue
			}
			steps++
			if rows := f.By.Y / up.Y; f.By.Y%up.Y != 0 || (f.By.X-rows*up.X)%side.X != 0 {
				t.Errorf("%v: %v is not made of %v and %v", c, f.By, side, up)
			}
		}
		if steps*side.X*up.Y != n*n {
			t.Errorf("%v: %d steps, of %v and %v", c, steps, side, up)
		}
	}
}

func TestG3DomainByItsWords(t *testing.T) {
	charts := small()
	for _, g := range grids {
		charts = append(charts, unlike(g, 24, 24), unlike(g, 8, 3), unlike(g, 3, 8), unlike(g, 24, 1), unlike(g, 5, 4), slanting(g, 24, 5), slanting(g, 12, 11))
	}
	for _, c := range charts {
		want := domainByWords(c, movesByWords(c))
		if got, err := Domain(c); !slices.Equal(got, want) || err != api.OK {
			t.Fatalf("%v: %v %d, not %v", c, got, err, want)
		}
	}
}

func TestG3DomainKnown(t *testing.T) {
	for _, x := range []struct {
		name string
		c    api.Chart
		want []api.Point
	}{
		{"one cell", plain(api.Square, 1, 1), torusPoints(1)},
		{"one colour", plain(api.Square, 24, 24), torusPoints(1)},
		{"one colour of triangles", plain(api.Hex, 24, 8), torusPoints(1)},
		{"all unlike", unlike(api.Square, 5, 5), torusPoints(5)},
		{"all unlike on the greatest torus", unlike(api.Hex, 24, 24), torusPoints(24)},
		{"stripes", unlike(api.Square, 3, 1), []api.Point{at(0, 0), at(1, 0), at(2, 0)}},
		{"stripes to the side", unlike(api.Hex, 1, 3), []api.Point{at(0, 0), at(0, 1), at(0, 2)}},
		{"a dot of nine triangles", api.Chart{Grid: api.Hex, Wide: 3, High: 3, Cells: []int{1, 0, 0, 0, 0, 0, 0, 0, 0}}, []api.Point{at(0, 0), at(1, 0), at(1, 1)}},
		{"a dot of nine squares, elsewhere", api.Chart{Grid: api.Square, Wide: 3, High: 3, Cells: []int{0, 0, 0, 0, 1, 0, 0, 0, 0}}, []api.Point{at(0, 0), at(1, 0), at(1, 1)}},
	} {
		if got, err := Domain(x.c); !slices.Equal(got, x.want) || err != api.OK {
			t.Errorf("%s: %v %d, not %v", x.name, got, err, x.want)
		}
	}
}

// isMoved holds a moved chart against the words of G4.
func isMoved(t *testing.T, c api.Chart, f api.Move) {
	t.Helper()
	n := torusByWords(c)
	m, err := Moved(c, f)
	if err != api.OK || m.Grid != c.Grid || m.Wide != n || m.High != n || len(m.Cells) != n*n {
		t.Fatalf("%v, %v: %v %d", c, f, m, err)
	}
	for _, z := range window(n) {
		if want, got := colourAt(c, z), colourAt(m, takes(c.Grid, f, z)); got != want {
			t.Fatalf("%v, %v: %v, where %d stands for %v, not %d", c, f, m, got, z, want)
		}
	}
}

func TestG4MovedByItsWords(t *testing.T) {
	for _, g := range grids {
		charts := []api.Chart{plain(g, 1, 1), unlike(g, 1, 2), unlike(g, 3, 1), unlike(g, 2, 3), unlike(g, 4, 2), unlike(g, 5, 5), unlike(g, 6, 4), unlike(g, 8, 3)}
		for _, k := range kinds {
			if k.grid == g {
				charts = append(charts, coloured(g, 6, k.made))
			}
		}
		for _, c := range charts {
			for _, f := range movesBy(g, somewhere(torusByWords(c))...) {
				isMoved(t, c, f)
			}
		}
		for _, f := range movesBy(g, at(1, -2), at(most, -most)) {
			isMoved(t, unlike(g, 24, 24), f)
			isMoved(t, unlike(g, 3, 24), f)
		}
	}
}

func TestG4MovedKnown(t *testing.T) {
	for _, x := range []struct {
		grid  int
		f     api.Move
		cells []int
	}{
		{api.Square, api.Move{}, []int{0, 1, 2, 3, 4, 5, 6, 7, 8}},
		{api.Square, api.Move{By: at(1, 0)}, []int{2, 0, 1, 5, 3, 4, 8, 6, 7}},
		{api.Square, api.Move{By: at(-3, 4)}, []int{6, 7, 8, 0, 1, 2, 3, 4, 5}},
		{api.Square, api.Move{By: at(most, 0)}, []int{2, 0, 1, 5, 3, 4, 8, 6, 7}},
		{api.Square, api.Move{By: at(0, -most)}, []int{3, 4, 5, 6, 7, 8, 0, 1, 2}},
		{api.Square, api.Move{Turn: 1}, []int{0, 6, 3, 1, 7, 4, 2, 8, 5}},
		{api.Square, api.Move{Flip: true}, []int{0, 1, 2, 6, 7, 8, 3, 4, 5}},
		{api.Square, api.Move{Turn: 1, Flip: true}, []int{0, 3, 6, 1, 4, 7, 2, 5, 8}},
		{api.Hex, api.Move{Turn: 1}, []int{0, 7, 5, 1, 8, 3, 2, 6, 4}},
		{api.Hex, api.Move{Turn: 3, By: at(2, 2)}, []int{8, 7, 6, 5, 4, 3, 2, 1, 0}},
		{api.Hex, api.Move{Flip: true}, []int{0, 1, 2, 7, 8, 6, 5, 3, 4}},
	} {
		c := api.Chart{Grid: x.grid, Wide: 3, High: 3, Cells: []int{0, 1, 2, 3, 4, 5, 6, 7, 8}}
		want := api.Chart{Grid: x.grid, Wide: 3, High: 3, Cells: x.cells}
		if got, err := Moved(c, x.f); !reflect.DeepEqual(got, want) || err != api.OK {
			t.Errorf("%v: %v %d, not %v", x.f, got, err, want)
		}
	}
	// Without a move the chart is laid out over its torus.
	c := api.Chart{Grid: api.Hex, Wide: 2, High: 1, Cells: []int{7, 61}}
	want := api.Chart{Grid: api.Hex, Wide: 2, High: 2, Cells: []int{7, 61, 7, 61}}
	if got, err := Moved(c, api.Move{}); !reflect.DeepEqual(got, want) || err != api.OK {
		t.Errorf("two cells: %v %d", got, err)
	}
}

// What a chart is kept by is what it is not changed by.
func TestG2And4MovedAndKeptAgree(t *testing.T) {
	for _, c := range small() {
		still, _ := Moved(c, api.Move{})
		for _, f := range movesBy(c.Grid, at(0, 0), at(1, 0), at(2, -3), at(most, most)) {
			is, _ := Keeps(c, f)
			m, _ := Moved(c, f)
			if same := slices.Equal(m.Cells, still.Cells); same != is {
				t.Fatalf("%v, %v: kept %v, the same %v", c, f, is, same)
			}
		}
	}
}

func TestE2OnlyReadsAndAnswersNewMemory(t *testing.T) {
	room := []int{1, 2, 3, 4, 5, 6, 99, -99}
	before := slices.Clone(room)
	c := api.Chart{Grid: api.Hex, Wide: 3, High: 2, Cells: room[:6]}
	f := api.Move{Turn: 1, Flip: true, By: at(1, 1)}
	for range 2 {
		tell(t, "spare room", c, api.Move{}, api.OK)
		moved, _ := Moved(c, f)
		moves, _ := Moves(c)
		domain, _ := Domain(c)
		first, firstMoves, firstDomain := slices.Clone(moved.Cells), slices.Clone(moves), slices.Clone(domain)
		spoil(moved.Cells, -5)
		spoil(moves, api.Move{Turn: -5})
		spoil(domain, at(-5, -5))
		moved, _ = Moved(c, f)
		moves, _ = Moves(c)
		domain, _ = Domain(c)
		if !slices.Equal(moved.Cells, first) || !slices.Equal(moves, firstMoves) || !slices.Equal(domain, firstDomain) {
			t.Errorf("an answer was changed by what was done with the one ahead of it")
		}
	}
	if !slices.Equal(room, before) {
		t.Errorf("cells are changed: %v", room)
	}
	same := unlike(api.Square, 4, 4)
	still, _ := Moved(same, api.Move{})
	spoil(same.Cells, 9)
	if !slices.Equal(still.Cells, unlike(api.Square, 4, 4).Cells) {
		t.Errorf("an answer shares memory with what was handed in: %v", still)
	}
}

// spoil writes over a list and its spare room.
func spoil[T any](l []T, x T) {
	l = l[:cap(l)]
	for i := range l {
		l[i] = x
	}
}
