package chart

import (
	"math"
	"reflect"
	"slices"
	"strings"
	"testing"

	"tapestry/api"
)

// chartOf is a chart whose colours go round through all that there are.
func chartOf(grid, wide, high int) api.Chart {
	c := api.Chart{Grid: grid, Wide: wide, High: high}
	for i := range wide * high {
		c.Cells = append(c.Cells, (i*7+i/5)%api.MaxColour)
	}
	return c
}

func TestC1WrongAtEdges(t *testing.T) {
	const most = api.MaxSide
	with := func(cells ...int) api.Chart {
		return api.Chart{Grid: api.Square, Wide: len(cells), High: 1, Cells: cells}
	}
	for _, x := range []struct {
		name string
		c    api.Chart
		want api.Errno
	}{
		{"smallest", chartOf(api.Square, 1, 1), api.OK},
		{"smallest of triangles", chartOf(api.Hex, 1, 1), api.OK},
		{"greatest", chartOf(api.Hex, most, most), api.OK},
		{"widest", chartOf(api.Square, most, 1), api.OK},
		{"highest", chartOf(api.Square, 1, most), api.OK},
		{"zero", api.Chart{}, api.ErrKind},
		{"grid 3", chartOf(3, 1, 1), api.ErrKind},
		{"grid 5", chartOf(5, 1, 1), api.ErrKind},
		{"grid 7", chartOf(7, 1, 1), api.ErrKind},
		{"grid -4", chartOf(-4, 1, 1), api.ErrKind},
		{"no width", chartOf(api.Square, 0, 1), api.ErrRange},
		{"no height", chartOf(api.Square, 1, 0), api.ErrRange},
		{"too wide", chartOf(api.Square, most+1, 1), api.ErrRange},
		{"too high", chartOf(api.Hex, 1, most+1), api.ErrRange},
		{"width below 0", api.Chart{Grid: api.Square, Wide: -1, High: -1, Cells: []int{0}}, api.ErrRange},
		{"sides whose product wraps round", api.Chart{Grid: api.Square, Wide: math.MinInt, High: 2}, api.ErrRange},
		{"greatest sides", api.Chart{Grid: api.Hex, Wide: math.MaxInt, High: math.MaxInt, Cells: []int{0}}, api.ErrRange},
		{"no cells", api.Chart{Grid: api.Square, Wide: 1, High: 1}, api.ErrFit},
		{"empty cells", api.Chart{Grid: api.Square, Wide: 1, High: 1, Cells: []int{}}, api.ErrFit},
		{"a cell too few", api.Chart{Grid: api.Square, Wide: 3, High: 2, Cells: make([]int, 5)}, api.ErrFit},
		{"a cell too many", api.Chart{Grid: api.Square, Wide: 3, High: 2, Cells: make([]int, 7)}, api.ErrFit},
		{"enough behind the list", api.Chart{Grid: api.Square, Wide: 3, High: 2, Cells: make([]int, 5, 6)}, api.ErrFit},
		{"first colour", with(0), api.OK},
		{"last colour", with(0, api.MaxColour-1), api.OK},
		{"beyond the last colour", with(0, api.MaxColour), api.ErrRange},
		{"below the first colour", with(-1, 0), api.ErrRange},
		{"least colour", with(0, 1, math.MinInt), api.ErrRange},
		{"greatest colour", with(math.MaxInt, 1), api.ErrRange},
	} {
		if got := Wrong(x.c); got != x.want {
			t.Errorf("%s: %d, not %d", x.name, got, x.want)
		}
		if colour, err := At(x.c, api.Point{}); err != x.want || err != api.OK && colour != 0 {
			t.Errorf("%s: At tells %d %d, not %d", x.name, colour, err, x.want)
		}
		if s, err := Print(x.c); err != x.want || (err != api.OK) != (s == "") {
			t.Errorf("%s: Print tells %q %d, not %d", x.name, s, err, x.want)
		}
	}
}

func TestC1FirstErrorIsTold(t *testing.T) {
	// Each chart has all that is wrong with the next ones, too.
	bad := []int{api.MaxColour, -1}
	for _, x := range []struct {
		c    api.Chart
		want api.Errno
	}{
		{api.Chart{Grid: 5, Wide: 0, High: api.MaxSide + 1, Cells: bad}, api.ErrKind},
		{api.Chart{Grid: api.Square, Wide: 0, High: api.MaxSide + 1, Cells: bad}, api.ErrRange},
		{api.Chart{Grid: api.Square, Wide: 1, High: api.MaxSide + 1, Cells: bad}, api.ErrRange},
		{api.Chart{Grid: api.Square, Wide: 0, High: 1, Cells: bad}, api.ErrRange},
		{api.Chart{Grid: api.Square, Wide: 3, High: 1, Cells: bad}, api.ErrFit},
		{api.Chart{Grid: api.Square, Wide: 1, High: 1, Cells: bad}, api.ErrFit},
		{api.Chart{Grid: api.Square, Wide: 2, High: 1, Cells: bad}, api.ErrRange},
	} {
		if got := Wrong(x.c); got != x.want {
			t.Errorf("%v: %d, not %d", x.c, got, x.want)
		}
	}
}

func TestC1AtGoesOnForEver(t *testing.T) {
	for _, grid := range []int{api.Square, api.Hex} {
		for _, side := range []api.Point{{X: 1, Y: 1}, {X: 3, Y: 2}, {X: 2, Y: 5}, {X: 1, Y: 4}, {X: 4, Y: 1}, {X: 6, Y: 6}} {
			c := chartOf(grid, side.X, side.Y)
			for y := range c.High {
				for x := range c.Wide {
					for over := -3; over <= 3; over++ {
						for up := -3; up <= 3; up++ {
							z := api.Point{X: x + over*c.Wide, Y: y + up*c.High}
							if got, err := At(c, z); got != c.Cells[y*c.Wide+x] || err != api.OK {
								t.Errorf("%v at %v: %d %d", c, z, got, err)
							}
						}
					}
				}
			}
		}
	}
}

func TestC1AtGreatestAndLeast(t *testing.T) {
	// 2^63 leaves 1 when it is divided by 7 (and 2^3 does), 3 when by 5; so MinInt is 6 modulo 7 and 2 modulo 5.
	c := chartOf(api.Square, 7, 5)
	cell := func(x, y int) int { return c.Cells[y*7+x] }
	for _, x := range []struct {
		z    api.Point
		want int
	}{
		{api.Point{X: math.MinInt64, Y: 0}, cell(6, 0)},
		{api.Point{X: 0, Y: math.MinInt64}, cell(0, 2)},
		{api.Point{X: math.MaxInt64, Y: 0}, cell(0, 0)},
		{api.Point{X: 1, Y: math.MaxInt64}, cell(1, 2)},
		{api.Point{X: math.MinInt64, Y: math.MaxInt64}, cell(6, 2)},
		{api.Point{X: math.MaxInt64 - 1, Y: math.MinInt64 + 1}, cell(6, 3)},
	} {
		if got, err := At(c, x.z); got != x.want || err != api.OK {
			t.Errorf("at %v: %d %d, not %d", x.z, got, err, x.want)
		}
	}
	greatest := chartOf(api.Hex, api.MaxSide, api.MaxSide)
	for _, n := range []int{math.MinInt64, math.MinInt64 + 1, -65, -64, -1, 64, math.MaxInt64} {
		want := greatest.Cells[(n&63)*64+(n&63)]
		if got, err := At(greatest, api.Point{X: n, Y: n}); got != want || err != api.OK {
			t.Errorf("at %d: %d %d, not %d", n, got, err, want)
		}
	}
}

func TestC1OnlyReads(t *testing.T) {
	room := []int{1, 2, 3, 4, 5, 6, 99, -99}
	c := api.Chart{Grid: api.Hex, Wide: 3, High: 2, Cells: room[:6]}
	Wrong(c)
	At(c, api.Point{X: -1, Y: -1})
	Print(c)
	if !slices.Equal(room, []int{1, 2, 3, 4, 5, 6, 99, -99}) {
		t.Errorf("cells are changed: %v", room)
	}
}

func TestC2PrintsHighestRowFirst(t *testing.T) {
	for _, x := range []struct {
		c    api.Chart
		want string
	}{
		{api.Chart{Grid: api.Square, Wide: 2, High: 1, Cells: []int{0, 1}}, "□\n·█\n"},
		{api.Chart{Grid: api.Hex, Wide: 1, High: 1, Cells: []int{61}}, "△\nz\n"},
		{api.Chart{Grid: api.Hex, Wide: 2, High: 3, Cells: []int{0, 1, 2, 11, 12, 35}}, "△\nαω\n09\n·█\n"},
		{api.Chart{Grid: api.Square, Wide: 3, High: 2, Cells: []int{28, 29, 30, 36, 37, 61}}, "□\nabz\nρστ\n"},
	} {
		if got, err := Print(x.c); got != x.want || err != api.OK {
			t.Errorf("%v: %q %d, not %q", x.c, got, err, x.want)
		}
	}
}

func TestC2PrintsGreatest(t *testing.T) {
	got, err := Print(chartOf(api.Hex, api.MaxSide, api.MaxSide))
	lines := strings.Split(got, "\n")
	if err != api.OK || len(lines) != api.MaxSide+2 || lines[0] != "△" || lines[api.MaxSide+1] != "" {
		t.Fatalf("%d lines, %d", len(lines), err)
	}
	for i, line := range lines[1 : api.MaxSide+1] {
		if n := len([]rune(line)); n != api.MaxSide {
			t.Errorf("line %d has %d signs", i+1, n)
		}
	}
}

func TestC2And3PrintAndReadUndoEachOther(t *testing.T) {
	for _, grid := range []int{api.Square, api.Hex} {
		for _, side := range []api.Point{{X: 1, Y: 1}, {X: 3, Y: 2}, {X: 2, Y: 7}, {X: api.MaxSide, Y: 1}, {X: 1, Y: api.MaxSide}, {X: api.MaxSide, Y: api.MaxSide}} {
			c := chartOf(grid, side.X, side.Y)
			s, err := Print(c)
			if err != api.OK {
				t.Fatalf("%v: %d", side, err)
			}
			back, fault := Read(s)
			if !reflect.DeepEqual(back, c) || fault != (api.Fault{}) {
				t.Errorf("%v: comes back as %v, %v", c, back, fault)
			}
			if again, err := Print(back); again != s || err != api.OK {
				t.Errorf("%q: comes back as %q, %d", s, again, err)
			}
		}
	}
}
