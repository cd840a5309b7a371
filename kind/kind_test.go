package kind

import (
	"math"
	"reflect"
	"slices"
	"testing"

	"tapestry/api"
)

// kinds are moves that make a pattern of each kind on the grids that can have it, on a torus of n.
var kinds = []struct {
	kind, grid, n int
	made          []api.Move
}{
	{api.P1, api.Square, 6, nil},
	{api.P2, api.Square, 6, []api.Move{{Turn: 2}}},
	{api.P2, api.Square, 6, []api.Move{{Turn: 2, By: at(3, 1)}}},
	{api.PM, api.Square, 6, []api.Move{{Flip: true}}},
	{api.PM, api.Square, 6, []api.Move{{Turn: 2, Flip: true, By: at(1, 0)}}},
	{api.PM, api.Square, 8, []api.Move{{Turn: 1, Flip: true}, {By: at(4, 4)}}}, // aslant
	{api.PG, api.Square, 6, []api.Move{{Flip: true, By: at(3, 0)}}},
	{api.PG, api.Square, 6, []api.Move{{Turn: 2, Flip: true, By: at(1, 3)}}},
	{api.PG, api.Square, 8, []api.Move{{Turn: 3, Flip: true, By: at(2, -2)}, {By: at(4, 4)}}},
	{api.CM, api.Square, 6, []api.Move{{Turn: 1, Flip: true}}},
	{api.CM, api.Square, 6, []api.Move{{Turn: 3, Flip: true, By: at(1, 1)}}},
	{api.CM, api.Square, 6, []api.Move{{Flip: true}, {By: at(3, 3)}}},
	{api.PMM, api.Square, 6, []api.Move{{Turn: 2}, {Flip: true}}},
	{api.PMM, api.Square, 8, []api.Move{{Turn: 2}, {Turn: 1, Flip: true}, {By: at(4, 4)}}},
	{api.PMG, api.Square, 6, []api.Move{{Turn: 2}, {Flip: true, By: at(3, 0)}}},
	{api.PMG, api.Square, 6, []api.Move{{Turn: 2}, {Flip: true, By: at(0, 3)}}},
	{api.PMG, api.Square, 8, []api.Move{{Turn: 2}, {Turn: 1, Flip: true, By: at(2, 2)}, {By: at(4, 4)}}},
	{api.PGG, api.Square, 6, []api.Move{{Turn: 2}, {Flip: true, By: at(3, 3)}}},
	{api.PGG, api.Square, 8, []api.Move{{Turn: 2}, {Turn: 1, Flip: true, By: at(4, 0)}, {By: at(4, 4)}}},
	{api.CMM, api.Square, 6, []api.Move{{Turn: 2}, {Turn: 3, Flip: true}}},
	{api.CMM, api.Square, 8, []api.Move{{Turn: 2}, {Flip: true}, {By: at(4, 4)}}},
	{api.P4, api.Square, 6, []api.Move{{Turn: 1}}},
	{api.P4, api.Square, 6, []api.Move{{Turn: 1, By: at(1, 0)}}},
	{api.P4, api.Square, 5, []api.Move{{Turn: 1}, {By: at(2, 1)}}},
	{api.P4M, api.Square, 6, []api.Move{{Turn: 1}, {Flip: true}}},
	{api.P4M, api.Square, 8, []api.Move{{Turn: 3}, {Turn: 1, Flip: true}, {By: at(4, 4)}}},
	{api.P4G, api.Square, 6, []api.Move{{Turn: 1}, {Flip: true, By: at(3, 3)}}},
	{api.P4G, api.Square, 12, []api.Move{{Turn: 1}, {Turn: 1, Flip: true, By: at(6, 0)}, {By: at(6, 6)}}},
	{api.P1, api.Hex, 6, nil},
	{api.P2, api.Hex, 6, []api.Move{{Turn: 3}}},
	{api.P2, api.Hex, 6, []api.Move{{Turn: 3, By: at(1, 2)}}},
	{api.PM, api.Hex, 8, []api.Move{{Flip: true}, {By: at(4, 0)}}},
	{api.PM, api.Hex, 8, []api.Move{{Turn: 3, Flip: true}, {By: at(4, 0)}}},
	{api.PM, api.Hex, 8, []api.Move{{Turn: 2, Flip: true}, {By: at(0, 4)}}},
	{api.PG, api.Hex, 8, []api.Move{{Flip: true, By: at(2, 0)}, {By: at(4, 0)}}},
	{api.PG, api.Hex, 8, []api.Move{{Turn: 3, Flip: true, By: at(-2, 4)}, {By: at(4, 0)}}},
	{api.CM, api.Hex, 6, []api.Move{{Turn: 5, Flip: true}}},
	{api.CM, api.Hex, 6, []api.Move{{Flip: true, By: at(-1, 2)}}},
	{api.PMM, api.Hex, 8, []api.Move{{Turn: 3}, {Flip: true}, {By: at(4, 0)}}},
	{api.PMG, api.Hex, 8, []api.Move{{Turn: 3}, {Flip: true, By: at(2, 0)}, {By: at(4, 0)}}},
	{api.PMG, api.Hex, 8, []api.Move{{Turn: 3}, {Flip: true, By: at(-2, 4)}, {By: at(4, 0)}}},
	{api.PGG, api.Hex, 8, []api.Move{{Turn: 3}, {Flip: true, By: at(0, 4)}, {By: at(4, 0)}}},
	{api.CMM, api.Hex, 6, []api.Move{{Turn: 3}, {Turn: 1, Flip: true}}},
	{api.CMM, api.Hex, 6, []api.Move{{Turn: 3}, {Turn: 4, Flip: true}}},
	{api.P3, api.Hex, 6, []api.Move{{Turn: 2}}},
	{api.P3, api.Hex, 6, []api.Move{{Turn: 2, By: at(1, 0)}}}, // turned round points that are none of the grid
	{api.P3, api.Hex, 7, []api.Move{{Turn: 4}, {By: at(2, 1)}}},
	{api.P31M, api.Hex, 6, []api.Move{{Turn: 2}, {Flip: true}}},
	{api.P31M, api.Hex, 4, []api.Move{{Turn: 2}, {Flip: true}}},
	{api.P31M, api.Hex, 12, []api.Move{{Turn: 2}, {Turn: 1, Flip: true}, {By: at(4, 4)}}},
	{api.P31M, api.Hex, 12, []api.Move{{Turn: 2, By: at(1, 0)}, {Turn: 1, Flip: true}, {By: at(4, 4)}}}, // none of the grid
	{api.P3M1, api.Hex, 6, []api.Move{{Turn: 2}, {Turn: 1, Flip: true}}},
	{api.P3M1, api.Hex, 4, []api.Move{{Turn: 2}, {Turn: 1, Flip: true}}},
	{api.P3M1, api.Hex, 6, []api.Move{{Turn: 2, By: at(1, 0)}, {Turn: 1, Flip: true}}}, // none of the grid
	{api.P3M1, api.Hex, 12, []api.Move{{Turn: 2}, {Flip: true}, {By: at(4, 4)}}},
	{api.P6, api.Hex, 6, []api.Move{{Turn: 1}}},
	{api.P6, api.Hex, 7, []api.Move{{Turn: 1}, {By: at(2, 1)}}},
	{api.P6M, api.Hex, 6, []api.Move{{Turn: 1}, {Flip: true}}},
	{api.P6M, api.Hex, 6, []api.Move{{Turn: 1, By: at(2, 1)}, {Flip: true, By: at(-3, 6)}}},
	{api.P6M, api.Hex, 12, []api.Move{{Turn: 5}, {Turn: 3, Flip: true}, {By: at(4, 4)}}},
}

// kindIs holds the kind of a chart against the one that is wanted.
func kindIs(t *testing.T, what string, c api.Chart, want int) {
	t.Helper()
	if k, err := Kind(c); k != want || err != api.OK {
		t.Errorf("%s, %d by %d on %d: kind %d %d, not %d", what, c.Wide, c.High, c.Grid, k, err, want)
	}
}

// small are charts that can be held against the words, all of their sides and colours.
func small() []api.Chart {
	var out []api.Chart
	for _, g := range grids {
		out = append(out, allOf(g, 1, 1, 2)...)
		out = append(out, allOf(g, 2, 2, 4)...)
		out = append(out, allOf(g, 3, 1, 3)...)
		out = append(out, allOf(g, 1, 4, 3)...)
		out = append(out, allOf(g, 2, 4, 2)...)
		out = append(out, allOf(g, 4, 2, 2)...)
		out = append(out, allOf(g, 3, 3, 2)...)
		out = append(out, allOf(g, 1, 6, 2)...)
		out = append(out, allOf(g, 5, 1, 2)...)
	}
	return out
}

// some are charts of greater sides, and of all kinds that come by themselves there.
func some() []api.Chart {
	var out []api.Chart
	for _, g := range grids {
		for _, side := range []api.Point{at(2, 3), at(3, 2), at(4, 4), at(5, 5), at(6, 6), at(6, 3), at(2, 6), at(8, 4)} {
			for seed := range 12 {
				c := plain(g, side.X, side.Y)
				for i := range c.Cells {
					c.Cells[i] = (i*i*(seed+1) + seed*i/2) % (2 + seed%4) % 3
				}
				out = append(out, c)
			}
		}
	}
	return out
}

func TestK1TurnsAndFlipsByTheWords(t *testing.T) {
	charts := some()
	for _, x := range kinds {
		charts = append(charts, coloured(x.grid, x.n, 61, x.made))
	}
	for _, c := range charts {
		p, err := patternOf(c)
		if err != api.OK {
			t.Fatalf("%v: %d", c, err)
		}
		k := keptByWords(c)
		if n, want := p.turns(), k.turnsByWords(); n != want {
			t.Errorf("%v: %d turns, not %d", c, n, want)
		}
		flips := p.flips()
		for turn := range c.Grid {
			var want ways
			for _, f := range k.of(turn, true, -k.n, k.n) {
				want.mirrors = want.mirrors || k.isMirror(f)
				want.glides = want.glides || k.isGlide(f)
			}
			have, ok := flips[turn]
			if have != want || ok != (want != ways{}) {
				t.Errorf("%v: Turn %d has flips %v %v, not %v", c, turn, ok, have, want)
			}
		}
	}
}

func TestK1GlideIsNoMirrorBehindAStep(t *testing.T) {
	for _, x := range kinds {
		c := coloured(x.grid, x.n, 61, x.made)
		p, _ := patternOf(c)
		k := keptByWords(c)
		for turn := range x.grid {
			for i, f := range k.of(turn, true, -x.n, x.n) {
				if i%3 == 0 && p.isGlide(f) != k.isGlide(f) {
					t.Errorf("%v of kind %d: glide %v, not %v", f, x.kind, p.isGlide(f), k.isGlide(f))
				}
			}
		}
	}
}

func TestK2EachKind(t *testing.T) {
	for _, x := range kinds {
		c := coloured(x.grid, x.n, 61, x.made)
		kindIs(t, "made", c, x.kind)
		if w := kindByWords(c); w != x.kind {
			t.Errorf("grid %d, %v: by the words %d, not %d", x.grid, x.made, w, x.kind)
		}
	}
}

// TestK2AllKindsAreAsked: of squares there are twelve kinds, of triangles all but those that are turned by a quarter.
func TestK2AllKindsAreAsked(t *testing.T) {
	asked := map[[2]int]bool{}
	for _, x := range kinds {
		asked[[2]int{x.grid, x.kind}] = true
	}
	for k := api.P1; k <= api.P6M; k++ {
		quarters := k == api.P4 || k == api.P4M || k == api.P4G
		if asked[[2]int{api.Square, k}] != (k <= api.P4G) || asked[[2]int{api.Hex, k}] == quarters {
			t.Errorf("kind %d is not asked as it should be", k)
		}
	}
}

func TestK2MovedTurnedMirrored(t *testing.T) {
	for _, x := range kinds {
		c := coloured(x.grid, x.n, 61, x.made)
		for turn := range x.grid {
			for _, flip := range []bool{false, true} {
				for _, by := range []api.Point{at(0, 0), at(1, 0), at(0, 1), at(2, 3), at(-1, -2), at(x.n, 5*x.n+1)} {
					f := api.Move{Turn: turn, Flip: flip, By: by}
					kindIs(t, "moved", moved(c, f), x.kind)
				}
			}
		}
	}
}

func TestK2OtherColours(t *testing.T) {
	for _, x := range kinds {
		c := coloured(x.grid, x.n, 61, x.made)
		for _, factor := range []int{1, 3, 37, 61} { // each has no divisor in common with MaxColour: each for each
			for _, plus := range []int{0, 1, 30, 61} {
				kindIs(t, "with other colours", recoloured(c, factor, plus), x.kind)
			}
		}
	}
}

func TestK2LaidOutSeveralTimes(t *testing.T) {
	for _, x := range kinds {
		c := coloured(x.grid, x.n, 61, x.made)
		for wide := 1; wide <= 6; wide++ {
			for high := 1; high <= 6; high++ {
				if l := laid(c, wide, high); torusByWords(l) <= api.MaxTorus {
					kindIs(t, "laid out", l, x.kind)
				}
			}
		}
	}
}

// TestK2AsWideAsNeeded: a chart need not be as wide and as high as its torus.
func TestK2AsWideAsNeeded(t *testing.T) {
	for _, g := range grids {
		for _, side := range []api.Point{at(1, 24), at(24, 1), at(3, 8), at(8, 3), at(12, 8), at(2, 3), at(4, 6), at(6, 4)} {
			for colours := 1; colours <= 4; colours++ {
				c := plain(g, side.X, side.Y)
				for i := range c.Cells {
					c.Cells[i] = i * i % 7 % colours
				}
				n := torusByWords(c)
				k, err := Kind(c)
				if err != api.OK {
					t.Fatalf("%d by %d: %d", c.Wide, c.High, err)
				}
				kindIs(t, "laid out over its torus", laid(c, n/c.Wide, n/c.High), k)
				kindIs(t, "turned", moved(c, api.Move{Turn: 1, By: at(1, 2)}), k)
				if n <= 12 && k != kindByWords(c) {
					t.Errorf("%v: kind %d, not %d", c, k, kindByWords(c))
				}
			}
		}
	}
}

func TestK2GreatTorus(t *testing.T) {
	for _, x := range kinds {
		wider := api.MaxTorus / x.n
		var made []api.Move
		for _, f := range x.made {
			f.By = at(f.By.X*wider, f.By.Y*wider)
			made = append(made, f)
		}
		c := coloured(x.grid, x.n*wider, 61, made)
		kindIs(t, "wider", c, x.kind)
	}
}

func TestK2AllSmallByTheWords(t *testing.T) {
	for _, c := range append(small(), some()...) {
		if k, err := Kind(c); k != kindByWords(c) || err != api.OK {
			t.Errorf("%v: kind %d %d, not %d", c, k, err, kindByWords(c))
		}
	}
}

func TestK2OneColourAndOneDot(t *testing.T) {
	for wide := 1; wide <= api.MaxTorus; wide++ {
		for _, high := range []int{1, wide} {
			kindIs(t, "one colour", plain(api.Square, wide, high), api.P4M)
			kindIs(t, "one colour", plain(api.Hex, wide, high), api.P6M)
		}
		for _, at := range []int{0, wide - 1, wide * wide / 2, wide*wide - 1} {
			c, d := plain(api.Square, wide, wide), plain(api.Hex, wide, wide)
			c.Cells[at], d.Cells[at] = 61, 1
			kindIs(t, "one dot", c, api.P4M)
			kindIs(t, "one dot", d, api.P6M)
		}
	}
}

func TestK2Known(t *testing.T) {
	for _, x := range []struct {
		kind int
		c    api.Chart
	}{
		{api.P6M, rows(6, "100", "000", "000")},
		{api.P4M, rows(4, "01", "10")},
		{api.PMM, rows(4, "011")},
		{api.PMM, rows(4, "01")},
		{api.PMM, rows(6, "01")},
		{api.PM, rows(4, "012")},
		{api.PMG, rows(4, "0110", "0011", "1001", "1100")},
		{api.P4G, rows(4, "010001", "101000", "000101", "001010", "010100", "100010")},
		{api.P4, rows(4, "01000", "00010", "10000", "00100", "00001")},
		{api.P1, rows(4, "012", "000", "100")},
		{api.P3M1, rows(6, "110", "100", "000")},
		{api.P31M, rows(6, "0001", "1000", "0000", "0100")},
		{api.P6, rows(6, "1000000", "0010000", "0000100", "0000001", "0100000", "0001000", "0000010")},
	} {
		want := kindByWords(x.c)
		if want != x.kind {
			t.Errorf("%v: by the words %d, not %d", x.c, want, x.kind)
		}
		kindIs(t, "known", x.c, x.kind)
	}
}

// wrongCharts are charts with each thing that can be wrong with one, and what that is.
var wrongCharts = []struct {
	name string
	c    api.Chart
	want api.Errno
}{
	{"no chart", api.Chart{}, api.ErrKind},
	{"grid 3", plain(3, 2, 2), api.ErrKind},
	{"grid 5", plain(5, 2, 2), api.ErrKind},
	{"grid -4", plain(-4, 2, 2), api.ErrKind},
	{"no width", plain(api.Square, 0, 2), api.ErrRange},
	{"no height", plain(api.Hex, 2, 0), api.ErrRange},
	{"sides below 0", api.Chart{Grid: api.Square, Wide: -2, High: -2, Cells: make([]int, 4)}, api.ErrRange},
	{"too wide", plain(api.Square, api.MaxSide+1, 1), api.ErrRange},
	{"too high", plain(api.Square, 1, api.MaxSide+1), api.ErrRange},
	{"too high, of triangles", plain(api.Hex, 1, api.MaxSide+1), api.ErrRange},
	{"sides that wrap round", api.Chart{Grid: api.Square, Wide: math.MinInt, High: 2}, api.ErrRange},
	{"greatest sides", api.Chart{Grid: api.Hex, Wide: math.MaxInt, High: math.MaxInt}, api.ErrRange},
	{"no cells", api.Chart{Grid: api.Square, Wide: 2, High: 2}, api.ErrFit},
	{"empty cells", api.Chart{Grid: api.Square, Wide: 1, High: 1, Cells: []int{}}, api.ErrFit},
	{"a cell too few", api.Chart{Grid: api.Hex, Wide: 2, High: 2, Cells: make([]int, 3, 4)}, api.ErrFit},
	{"a cell too many", api.Chart{Grid: api.Square, Wide: 2, High: 2, Cells: make([]int, 5)}, api.ErrFit},
	{"a colour below 0", api.Chart{Grid: api.Square, Wide: 2, High: 1, Cells: []int{0, -1}}, api.ErrRange},
	{"a colour too great", api.Chart{Grid: api.Square, Wide: 2, High: 1, Cells: []int{api.MaxColour, 0}}, api.ErrRange},
	// Of several things the first one in the order of C1 is told.
	{"no grid, no width, no cells", api.Chart{Grid: 7, Wide: 0, High: 3, Cells: []int{99}}, api.ErrKind},
	{"no width, no cells", api.Chart{Grid: api.Hex, Wide: 0, High: 3, Cells: []int{99}}, api.ErrRange},
	{"too few cells, a wrong colour", api.Chart{Grid: api.Square, Wide: 2, High: 3, Cells: []int{99}}, api.ErrFit},
	// All of that is told ahead of a torus that is too great, and of a grid that a band can't be on.
	{"a great torus without a grid", plain(0, 25, 25), api.ErrKind},
	{"a great torus, too wide", plain(api.Hex, api.MaxSide+1, 25), api.ErrRange},
	{"a great torus with a cell too few", api.Chart{Grid: api.Hex, Wide: 5, High: 7, Cells: make([]int, 34)}, api.ErrFit},
	{"a great torus with a wrong colour", api.Chart{Grid: api.Hex, Wide: 25, High: 1, Cells: slices.Repeat([]int{62}, 25)}, api.ErrRange},
}

func TestK2WrongChart(t *testing.T) {
	for _, x := range wrongCharts {
		if k, err := Kind(x.c); k != 0 || err != x.want {
			t.Errorf("%s: %d %d, not 0 %d", x.name, k, err, x.want)
		}
	}
}

func TestK2Torus(t *testing.T) {
	for _, g := range grids {
		for _, side := range []api.Point{at(25, 1), at(1, 25), at(25, 25), at(5, 6), at(13, 2), at(9, 12), at(64, 64), at(64, 63), at(1, 64), at(32, 32)} {
			if k, err := Kind(plain(g, side.X, side.Y)); k != 0 || err != api.ErrMuch {
				t.Errorf("%v: %d %d, not ErrMuch", side, k, err)
			}
		}
		for _, side := range []api.Point{at(1, 1), at(24, 1), at(1, 24), at(24, 24), at(8, 3), at(12, 8), at(23, 23), at(5, 4)} {
			if k, err := Kind(plain(g, side.X, side.Y)); k == 0 || err != api.OK {
				t.Errorf("%v: %d %d, not OK", side, k, err)
			}
		}
	}
}

func TestK3Name(t *testing.T) {
	for _, x := range []struct {
		kind int
		name string
	}{
		{api.P1, "p1"}, {api.P2, "p2"}, {api.PM, "pm"}, {api.PG, "pg"}, {api.CM, "cm"}, {api.PMM, "pmm"},
		{api.PMG, "pmg"}, {api.PGG, "pgg"}, {api.CMM, "cmm"}, {api.P4, "p4"}, {api.P4M, "p4m"}, {api.P4G, "p4g"},
		{api.P3, "p3"}, {api.P3M1, "p3m1"}, {api.P31M, "p31m"}, {api.P6, "p6"}, {api.P6M, "p6m"},
	} {
		if name, err := Name(x.kind); name != x.name || err != api.OK {
			t.Errorf("%d: %q %d, not %q", x.kind, name, err, x.name)
		}
	}
}

func TestK3NoKind(t *testing.T) {
	for _, k := range []int{math.MinInt, -17, -1, api.P1 - 1, api.P6M + 1, 34, math.MaxInt} {
		if name, err := Name(k); name != "" || err != api.ErrKind {
			t.Errorf("%d: %q %d, not ErrKind", k, name, err)
		}
	}
}

// TestE2OnlyRead: neither the chart nor what lies behind its cells is changed or looked at.
func TestE2OnlyRead(t *testing.T) {
	for _, x := range kinds {
		c := coloured(x.grid, x.n, 61, x.made)
		spare := append(slices.Clone(c.Cells), -7, 99)
		c.Cells = spare[: len(spare)-2 : len(spare)]
		before := slices.Clone(spare)
		kindIs(t, "with spare room", c, x.kind)
		Band(c)
		if !reflect.DeepEqual(before, spare) {
			t.Errorf("%v is changed", x)
		}
	}
}
