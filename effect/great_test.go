package effect_test

import (
	"slices"
	"testing"

	"tapestry/api"
)

// row is a picture of the colours 1 and 2 whose cells hang on one another in a long row: an end of 1 wants the pick of its own number in 2, but none behind that one; such a pick wants the next end in 1, but none behind that one; and so on to the last pick. There are two ways to string it: ends of 1 and picks of 2, and the other way round.
func row(n int) api.Chart {
	c := chartOf(n, make([]int, n*n))
	for y := range n {
		for x := range n {
			c.Cells[y*n+x] = 2
			if x < y || x == y+1 {
				c.Cells[y*n+x] = 1
			}
		}
	}
	return c
}

// beside is a picture with one column more behind it.
func beside(c api.Chart, column []int) api.Chart {
	out := api.Chart{Grid: c.Grid, Wide: c.Wide + 1, High: c.High}
	for y := range c.High {
		out.Cells = append(out.Cells, c.Cells[y*c.Wide:(y+1)*c.Wide]...)
		out.Cells = append(out.Cells, column[y])
	}
	return out
}

// above is a picture with one row more behind it.
func above(c api.Chart, row []int) api.Chart {
	c.High++
	c.Cells = slices.Concat(c.Cells, row)
	return c
}

// butLast is so many numbers, all of them alike but for the last one.
func butLast(n, all, last int) []int {
	return append(slices.Repeat([]int{all}, n-1), last)
}

// rowToOne is a row with an end of 3 behind it, which wants the last pick in 1; but a first end of 1 wants that pick in 2, by all threads that are between.
func rowToOne(n int) api.Chart { return beside(row(n), butLast(n, 3, 1)) }

// rowToBoth is such a one with a pick of 4 behind it, which wants the row's last end in this colour: in 2 it is wanted by all others too, in any other colour by none.
func rowToBoth(n, colour int) api.Chart {
	cells := slices.Repeat([]int{4}, n+1)
	cells[n-1] = colour
	return above(rowToOne(n), cells)
}

// TestO2LongRow: what an end wants of the last pick comes out over all others.
func TestO2LongRow(t *testing.T) {
	for _, n := range []int{2, 3, 4, 7, 20, 62, 63, 64} {
		ones, twos := slices.Repeat([]int{1}, n), slices.Repeat([]int{2}, n)
		isStrung(t, row(n), api.Strung{Ends: ones, Picks: twos})
		if n == 64 {
			continue
		}
		isStrung(t, rowToOne(n), api.Strung{Ends: append(slices.Clone(twos), 3), Picks: ones})
		isStrung(t, rowToBoth(n, 2), api.Strung{Ends: append(slices.Clone(twos), 3), Picks: append(slices.Clone(ones), 4)})
		stringTells(t, rowToBoth(n, 1), api.ErrNone)
	}
}

// TestO2RowsOtherwise: such rows mirrored, upside down and turned, held against a search.
func TestO2RowsOtherwise(t *testing.T) {
	came := map[bool]int{}
	for _, n := range []int{2, 3, 5, 9, 24, 63} {
		for _, c := range []api.Chart{row(n), rowToOne(n), rowToBoth(n, 1), rowToBoth(n, 2), rowToBoth(n, 5)} {
			for _, turned := range []bool{false, true} {
				for _, mirrored := range []bool{false, true} {
					for _, upside := range []bool{false, true} {
						other := otherwise(c, turned, mirrored, upside)
						want, found := searched(other)
						came[isFirst(t, other, want, found)]++
					}
				}
			}
		}
	}
	if came[true] < 50 || came[false] < 30 {
		t.Errorf("%v rows were held", came)
	}
}

// otherwise is a picture that is turned (rows for columns), then mirrored to the side, then turned upside down.
func otherwise(c api.Chart, turned, mirrored, upside bool) api.Chart {
	out := c
	if turned {
		out.Wide, out.High = c.High, c.Wide
	}
	out.Cells = make([]int, len(c.Cells))
	for at := range out.Cells {
		x, y := at%out.Wide, at/out.Wide
		if mirrored {
			x = out.Wide - 1 - x
		}
		if upside {
			y = out.High - 1 - y
		}
		if turned {
			x, y = y, x
		}
		out.Cells[at] = c.Cells[y*c.Wide+x]
	}
	return out
}

// knot is a picture of one colour with two by three other cells in it, of which the first five are unlike: 1 2, 3 4, 5 and the last one, from this place on.
func knot(wide, high, colour, x, y, last int) api.Chart {
	c := chartOf(wide, slices.Repeat([]int{colour}, wide*high))
	for i, cell := range []int{1, 2, 3, 4, 5, last} {
		c.Cells[(y+i/2)*wide+x+i%2] = cell
	}
	return c
}

// TestO2Knot: one cell alone makes that there are no threads, wherever it is in a great picture, which small threads show until they come to it.
func TestO2Knot(t *testing.T) {
	for _, sides := range [][2]int{{64, 64}, {64, 3}, {9, 64}} {
		wide, high := sides[0], sides[1]
		for _, x := range []int{0, 1, wide / 2, wide - 2} {
			for _, y := range []int{0, high / 3, (high - 3) / 2, high - 3} {
				if y > high-3 {
					continue
				}
				s := api.Strung{Ends: slices.Repeat([]int{7}, wide), Picks: slices.Repeat([]int{7}, high)}
				s.Ends[x], s.Ends[x+1] = 1, 4
				s.Picks[y], s.Picks[y+1], s.Picks[y+2] = 2, 3, 5
				ends(t, func() {
					isStrung(t, knot(wide, high, 7, x, y, 5), s)
					stringTells(t, knot(wide, high, 7, x, y, 6), api.ErrNone)
				})
			}
		}
	}
}

// TestO2GreatOfTwoColours: with 0 and another one the ends are free, and the picks show what is not 0.
func TestO2GreatOfTwoColours(t *testing.T) {
	for seed := range 40 {
		next := strew(seed)
		c := chartOf(64, slices.Repeat([]int{0}, 64*64))
		want := api.Strung{Ends: make([]int, 64), Picks: make([]int, 64)}
		for range next(400) {
			at := next(64 * 64)
			c.Cells[at] = 1 + seed
			want.Picks[at/64] = 1 + seed
		}
		isStrung(t, c, want)
	}
}

// greatPictures are such of MaxSide by MaxSide that nothing is known of.
func greatPictures() []api.Chart {
	var out []api.Chart
	for _, of := range []int{2, 3, 5, 31, 61, 62} {
		var slanted, chequered, wide, high []int
		for y := range 64 {
			for x := range 64 {
				slanted = append(slanted, (x+y)%of)
				chequered = append(chequered, (x*y+x)%of)
				wide = append(wide, 61-x%of)
				high = append(high, 61-y%of)
			}
		}
		for _, cells := range [][]int{slanted, chequered, wide, high} {
			out = append(out, chartOf(64, cells))
		}
	}
	return out
}

// TestO2Great: the greatest pictures, of one colour, of two, of many, with threads that show them and without, held against a search; the answer comes.
func TestO2Great(t *testing.T) {
	came := map[bool]int{}
	all := greatPictures()
	for seed := range 150 {
		next := strew(seed)
		s := drawnThreads(next, 64, 64, []int{1, 2, 3, 8, 62}[next(5)])
		c := shownByWords(s, drawnCloth(next, 64, 64, next(9)))
		all = append(all, c, changed(next, c, 1))
	}
	for _, c := range all {
		want, found := searched(c)
		ends(t, func() { came[isFirst(t, c, want, found)]++ })
	}
	if came[true] < 100 || came[false] < 40 {
		t.Errorf("%v great pictures were held", came)
	}
}
