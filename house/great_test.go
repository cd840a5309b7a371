package house_test

import (
	"testing"

	"tapestry/api"
)

// TestU1AllSmall: all charts of few cells and few colours.
func TestU1AllSmall(t *testing.T) {
	for _, x := range []struct{ cells, colours int }{{4, 4}, {6, 3}, {9, 2}} {
		for cells := 1; cells <= x.cells; cells++ {
			for wide := 1; wide <= cells; wide++ {
				if cells%wide == 0 {
					allOf(t, wide, cells/wide, x.colours)
				}
			}
		}
	}
}

// allOf holds Make against the words for all charts of some sides, in so many colours, on both grids.
func allOf(t *testing.T, wide, high, colours int) {
	t.Helper()
	many := 1
	for range wide * high {
		many *= colours
	}
	for n := range many {
		left := n
		c := chartOf(4, wide, high, func(x, y int) int {
			colour := left % colours
			left /= colours
			return colour
		})
		isMade(t, written(c))
		c.Grid = 6
		isMade(t, written(c))
	}
}

// TestU1AllSides: charts of all sides that there may be, and of those just beyond.
func TestU1AllSides(t *testing.T) {
	right := 0
	for wide := 1; wide <= 26; wide++ {
		for high := 1; high <= 26; high++ {
			c := drawnChart(4+2*((wide+high)%2), wide, high, 3, 40, 100*wide+high)
			got := isMade(t, written(c))
			if got.Kind != "" {
				right++
			}
		}
	}
	if want := len(sides()); right != want {
		t.Errorf("%d sides are right, not %d", right, want)
	}
}

// TestU1Drawn: charts without order, of few colours and of all, with no noughts, some and many.
func TestU1Drawn(t *testing.T) {
	all := sides()
	hangs, lifts := 0, 0
	for seed := range 400 {
		side := all[strewn(len(all), 10*seed)]
		colours := []int{2, 3, 5, api.MaxColour}[strewn(4, 10*seed+1)]
		noughts := []int{0, 5, 30, 50, 70, 95, 100}[strewn(7, 10*seed+2)]
		got := isMade(t, written(drawnChart(4+2*(seed%2), side[0], side[1], colours, noughts, seed)))
		if got.Hangs {
			hangs++
		}
		if len(got.Lift) > 1 {
			lifts++
		}
	}
	if hangs < 40 || lifts < 40 {
		t.Errorf("of those drawn %d hang together, and of %d more than one strand comes off: too few to tell", hangs, lifts)
	}
}

// TestU1EachKind: patterns that moves keep, till each of the seventeen kinds has come.
func TestU1EachKind(t *testing.T) {
	seen := map[string]int{}
	for seed := range 1500 {
		grid := 4 + 2*(seed%2)
		side := []int{4, 6, 8, 12}[strewn(4, 7*seed)]
		c := keptChart(grid, side, 2+strewn(3, 7*seed+1), drawnMoves(grid, side, seed), seed)
		seen[isMade(t, written(c)).Kind]++
	}
	for _, name := range []string{"p1", "p2", "pm", "pg", "cm", "pmm", "pmg", "pgg", "cmm", "p4", "p4m", "p4g", "p3", "p3m1", "p31m", "p6", "p6m"} {
		if seen[name] == 0 {
			t.Errorf("none is %s", name)
		}
	}
	if len(seen) != 17 {
		t.Errorf("there come %v", seen)
	}
}

// greatest are patterns of the greatest torus that there may be: all alike, with one dot, in plain weave, kept by moves, and without order.
func greatest() (out []string) {
	for _, grid := range []int{4, 6} {
		for _, side := range [][2]int{{24, 24}, {24, 12}, {12, 24}, {24, 1}, {1, 24}, {8, 3}} {
			wide, high := side[0], side[1]
			out = append(out, alike(grid, wide, high, 0), alike(grid, wide, high, 61),
				written(chartOf(grid, wide, high, func(x, y int) int { return (x + y) % 2 })),
				written(chartOf(grid, wide, high, func(x, y int) int { return 1 - min(1, x+y) })),
				written(drawnChart(grid, wide, high, 2, 30, wide+high)))
		}
		for seed := range 8 {
			out = append(out, written(keptChart(grid, 24, 3, drawnMoves(grid, 24, 900+seed), seed)))
		}
	}
	return out
}

// TestU1Greatest: the greatest that Make takes.
func TestU1Greatest(t *testing.T) {
	ends(t, func() {
		for _, text := range greatest() {
			if got := isMade(t, text); got.Kind == "" {
				t.Errorf("%q is not taken", text)
			}
		}
	})
}
