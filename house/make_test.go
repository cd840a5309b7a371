package house_test

import (
	"strings"
	"testing"

	"tapestry/api"
	"tapestry/house"
)

// tie is truths, where 1 is what holds; row 0 is the first one.
func tie(rows ...string) api.Truth {
	out := api.Truth{Wide: len(rows[0]), High: len(rows)}
	for _, r := range strings.Join(rows, "") {
		out.Bits = append(out.Bits, r == '1')
	}
	return out
}

// TestExample20PlainWeave: p4m, two shafts, two treadles, hangs together.
func TestExample20PlainWeave(t *testing.T) {
	text := "□\n·█\n█·\n"
	got, fault := house.Make(text)
	isThat(t, text, got, fault, api.Made{
		Kind:   "p4m",
		Points: 2,
		Draft:  api.Draft{Threading: []int{0, 1}, Tie: tie("10", "01"), Treadling: []int{0, 1}},
		Hangs:  true,
		Down:   1, Along: 1,
		Cards: "JQ1\x02\x02\x01\x80\x01\x40\x6e",
	}, api.Fault{})
}

// byHand are patterns with what comes of them, written out.
func byHand() map[string]api.Made {
	return map[string]api.Made{
		"□\n·\n": { // one cell of colour 0: the pick lies above the end
			Kind: "p4m", Points: 1,
			Draft: api.Draft{Threading: []int{0}, Tie: tie("0"), Treadling: []int{0}},
			Lift:  []int{1}, Down: 0, Along: 65,
			Cards: "JQ1\x01\x01\x01\x00\x31",
		},
		"△\nz\n": { // one of another colour: the end lies above the pick
			Kind: "p6m", Points: 1,
			Draft: api.Draft{Threading: []int{0}, Tie: tie("1"), Treadling: []int{0}},
			Lift:  []int{0}, Down: 65, Along: 0,
			Cards: "JQ1\x01\x01\x01\x80\xb1",
		},
		"□\n···\n···\n": { // all of colour 0: the picks lie above end 0, the other ends do not
			Kind: "p4m", Points: 1,
			Draft: api.Draft{Threading: []int{0, 0, 0}, Tie: tie("0"), Treadling: []int{0, 0}},
			Lift:  []int{0, 3, 4}, Down: 0, Along: 65,
			Cards: "JQ1\x03\x02\x02\x00\x2d",
		},
		"△\n█0\nzα\n": { // four unlike colours, none of them 0
			Kind: "p2", Points: 4,
			Draft: api.Draft{Threading: []int{0, 0}, Tie: tie("1"), Treadling: []int{0, 0}},
			Lift:  []int{0}, Down: 65, Along: 0,
			Cards: "JQ1\x02\x02\x02\xc0\x6e",
		},
		"□\n·█0\n": { // one row
			Kind: "pm", Points: 3,
			Draft: api.Draft{Threading: []int{0, 1, 1}, Tie: tie("01"), Treadling: []int{0}},
			Lift:  []int{1}, Down: 65, Along: 1,
			Cards: "JQ1\x03\x01\x01\x60\xcf",
		},
		"□\n0\n·\n·\n█\n": { // one column: the run down goes round
			Kind: "pm", Points: 4,
			Draft: api.Draft{Threading: []int{0}, Tie: tie("1", "0"), Treadling: []int{0, 1, 1, 0}},
			Lift:  []int{0, 2, 3}, Down: 2, Along: 65,
			Cards: "JQ1\x01\x04\x01\x80\x02\x00\x01\x80\x2b",
		},
		"△\n···\n···\n█··\n": { // one dot of nine triangles, in the lowest row
			Kind: "p6m", Points: 3,
			Draft: api.Draft{Threading: []int{0, 1, 1}, Tie: tie("10", "00"), Treadling: []int{0, 1, 1}},
			Lift:  []int{0, 4, 5}, Down: 1, Along: 65,
			Cards: "JQ1\x03\x03\x01\x80\x02\x00\xab",
		},
		"□\n·█0\nz·ω\n": { // five colours
			Kind: "pm", Points: 6,
			Draft: api.Draft{Threading: []int{0, 1, 2}, Tie: tie("101", "011"), Treadling: []int{0, 1}},
			Lift:  []int{2}, Down: 65, Along: 1,
			Cards: "JQ1\x03\x02\x01\xa0\x01\x60\x2d",
		},
		"△\n·a\nω·\n": { // three colours, of which plain weave comes
			Kind: "cmm", Points: 3,
			Draft: api.Draft{Threading: []int{0, 1}, Tie: tie("10", "01"), Treadling: []int{0, 1}},
			Hangs: true, Down: 1, Along: 1,
			Cards: "JQ1\x02\x02\x01\x80\x01\x40\x6e",
		},
	}
}

// TestU1ByHand: all that is answered, field by field.
func TestU1ByHand(t *testing.T) {
	for text, want := range byHand() {
		got, fault := house.Make(text)
		isThat(t, text, got, fault, want, api.Fault{})
		isMade(t, text)
	}
}

// TestU1RowsAreNotColumns: a chart of one row is a cloth of one pick; a chart of one column is one of one end.
func TestU1RowsAreNotColumns(t *testing.T) {
	for _, grid := range []string{"□\n", "△\n"} {
		row, _ := house.Make(grid + "·█\n")
		isThat(t, "one row", row, api.Fault{}, api.Made{
			Kind: row.Kind, Points: 2,
			Draft: api.Draft{Threading: []int{0, 1}, Tie: tie("01"), Treadling: []int{0}},
			Lift:  []int{1}, Down: 65, Along: 1,
			Cards: "JQ1\x02\x01\x01\x40\xf0",
		}, api.Fault{})
		column, _ := house.Make(grid + "█\n·\n")
		isThat(t, "one column", column, api.Fault{}, api.Made{
			Kind: column.Kind, Points: 2,
			Draft: api.Draft{Threading: []int{0}, Tie: tie("0", "1"), Treadling: []int{0, 1}},
			Lift:  []int{0, 1}, Down: 1, Along: 65,
			Cards: "JQ1\x01\x02\x01\x00\x01\x80\xaf",
		}, api.Fault{})
	}
}

// holdsAt tells whether the end at a place lies above the pick of a row, by what Make says of the draft.
func holdsAt(d api.Draft, x, y int) bool {
	return d.Tie.Bits[d.Treadling[y]*d.Tie.Wide+d.Threading[x]]
}

// TestU1EachCell: one cell is not as the others: the cloth is other there, and nowhere else; that is told of each cell, those at the edges too.
func TestU1EachCell(t *testing.T) {
	for _, side := range [][2]int{{1, 1}, {2, 1}, {1, 2}, {3, 1}, {1, 3}, {3, 2}, {2, 3}, {4, 3}, {5, 5}, {2, 6}, {12, 3}, {3, 12}, {16, 1}, {1, 16}, {20, 2}} {
		wide, high := side[0], side[1]
		for at := range wide * high {
			for _, colours := range [][2]int{{0, 1}, {1, 0}, {0, 61}, {61, 0}, {12, 13}} {
				c := chartOf(4+2*(at%2), wide, high, func(x, y int) int {
					if y*wide+x == at {
						return colours[1]
					}
					return colours[0]
				})
				got := isMade(t, written(c))
				if len(got.Draft.Threading) != wide || len(got.Draft.Treadling) != high {
					t.Fatalf("%v: the draft is %v", c, got.Draft)
				}
				for i := range wide * high {
					if holdsAt(got.Draft, i%wide, i/wide) != (c.Cells[i] != 0) {
						t.Errorf("%v: in row %d at place %d it is other", c, i/wide, i%wide)
					}
				}
			}
		}
	}
}

// TestU1EachColour: all colours but 0 hold, each of them as the others do.
func TestU1EachColour(t *testing.T) {
	for colour := range api.MaxColour {
		for _, grid := range []int{4, 6} {
			got := isMade(t, written(chartOf(grid, 3, 2, func(x, y int) int {
				if x == 1 && y == 1 {
					return colour
				}
				return 0
			})))
			want := "JQ1\x03\x02\x01\x00\x01\x40\xed"
			if colour == 0 {
				want = "JQ1\x03\x02\x02\x00\x2d"
			}
			if got.Cards != want {
				t.Errorf("grid %d, colour %d: cards %q, not %q", grid, colour, got.Cards, want)
			}
		}
	}
}

// TestU1ColoursTellTheKind: the kind and the points are the chart's, with all its colours, not the cloth's.
func TestU1ColoursTellTheKind(t *testing.T) {
	for _, x := range []struct {
		text, kind string
		points     int
	}{
		{"□\n█·\n·█\n", "p4m", 2},
		{"□\n█·\n·0\n", "p4m", 3},
		{"□\n█·\n0α\n", "pmm", 4},
		{"△\n██\n██\n", "p6m", 1},
		{"△\n0█\n██\n", "p6m", 2},
		{"△\n0█\n█z\n", "cmm", 3},
	} {
		if got := isMade(t, x.text); got.Kind != x.kind || got.Points != x.points {
			t.Errorf("%q: %s, %d points, not %s, %d", x.text, got.Kind, got.Points, x.kind, x.points)
		}
	}
}
