package shape_test

import (
	"slices"
	"testing"

	"tapestry/api"
)

// asRows: Rows tells what V2's words do.
func asRows(t *testing.T, from, to, n int) {
	t.Helper()
	same(t, rows(t, from, to, n), rowsByWords(from, to, n), "Rows", from, to, n)
}

// TestV2RowsKnown: rows that were worked out by hand.
func TestV2RowsKnown(t *testing.T) {
	for _, x := range []struct {
		name        string
		from, to, n int
		want        []int
	}{
		{"a multiple of rows", 10, 22, 4, []int{13, 16, 19, 22}},
		{"a multiple of rows, to less", 22, 10, 4, []int{19, 16, 13, 10}},
		{"as many as rows", 3, 7, 4, []int{4, 5, 6, 7}},
		{"less than rows: the marks stand at 1 and 3", 5, 7, 4, []int{5, 6, 6, 7}},
		{"less than rows, to less", 7, 5, 4, []int{7, 6, 6, 5}},
		{"one in two rows, at 1", 0, 1, 2, []int{0, 1}},
		{"one in two rows, to less", 1, 0, 2, []int{1, 0}},
		{"one in three rows, at 1", 0, 1, 3, []int{0, 1, 1}},
		{"greater than rows, and no multiple", 10, 20, 4, []int{12, 15, 17, 20}},
		{"greater than rows, and no multiple, to less", 20, 10, 4, []int{18, 15, 13, 10}},
		{"three marks among seven places: 1, 3 and 5", 20, 3, 7, []int{18, 15, 13, 10, 8, 5, 3}},
		{"a mark at the first row's place, which is 0", 0, 2, 3, []int{1, 1, 2}},
		{"a mark at the first row's place, to less", 2, 0, 3, []int{1, 1, 0}},
		{"marks at 0, 2 and 3", 0, 3, 4, []int{1, 1, 2, 3}},
		{"marks at 0, 2 and 3 beside two each", 0, 11, 4, []int{3, 5, 8, 11}},
		{"the same", 5, 5, 3, []int{5, 5, 5}},
		{"the same, 0", 0, 0, 2, []int{0, 0}},
		{"the same, MaxSpread", api.MaxSpread, api.MaxSpread, 2, []int{api.MaxSpread, api.MaxSpread}},
		{"one row", 3, 9, 1, []int{9}},
		{"one row, to less", 9, 3, 1, []int{3}},
		{"one row, the same", 9, 9, 1, []int{9}},
		{"one row from 0 to MaxSpread", 0, api.MaxSpread, 1, []int{api.MaxSpread}},
		{"one row from MaxSpread to 0", api.MaxSpread, 0, 1, []int{0}},
		{"from 0 to MaxSpread", 0, api.MaxSpread, 3, []int{349525, 699051, 1048576}},
		{"from MaxSpread to 0", api.MaxSpread, 0, 3, []int{699051, 349525, 0}},
	} {
		t.Run(x.name, func(t *testing.T) { same(t, rows(t, x.from, x.to, x.n), x.want, "Rows", x.from, x.to, x.n) })
	}
}

// TestV2RowsSmallByTheWords: all that are few, both ways, in fewer rows and more.
func TestV2RowsSmallByTheWords(t *testing.T) {
	for from := 0; from <= 36; from++ {
		for to := 0; to <= 36; to++ {
			for n := 1; n <= 40; n++ {
				asRows(t, from, to, n)
			}
		}
	}
}

// edgeRows are how many rows there may be, few and up to MaxStitches.
func edgeRows() []int {
	return []int{1, 2, 3, 7, 64, 1000, 2047, 2048, 2049, api.MaxStitches - 1, api.MaxStitches}
}

// TestV2RowsGreatByTheWords: from and to at their bounds and near them, and so far from one another that d is a multiple of rows, or one less or more.
func TestV2RowsGreatByTheWords(t *testing.T) {
	for _, n := range edgeRows() {
		for _, x := range [][2]int{{0, api.MaxSpread}, {0, api.MaxSpread - 1}, {1, api.MaxSpread}, {0, 1}, {0, 0}, {api.MaxSpread - 1, api.MaxSpread}, {api.MaxSpread, api.MaxSpread},
			{1, 5 * n}, {0, n - 1}, {0, n}, {0, n + 1}, {7, 7 + n/2}, {7, 7 + n/2 + 1}, {0, 100*n - 1}, {0, 100 * n}, {0, 100*n + 1}, {api.MaxSpread - 3*n - 2, api.MaxSpread}} {
			asRows(t, x[0], x[1], n)
			asRows(t, x[1], x[0], n)
		}
	}
	for seed := range 100 {
		from, to, n := strewn(api.MaxSpread+1, 3*seed), strewn(api.MaxSpread+1, 3*seed+1), 1+strewn(api.MaxStitches, 3*seed+2)
		asRows(t, from, to, n)
		asRows(t, from, from/2+n/3, n)
	}
}

// TestV2RowsByMarks: each row is nearer than the one ahead of it by as much as V2 says, by the marks that Spread tells; the last one is there.
func TestV2RowsByMarks(t *testing.T) {
	for seed := range 100 {
		from, to, n := strewn(1+100*(seed%7), 3*seed), strewn(api.MaxSpread+1, 3*seed+1), 1+strewn(1+40*(seed%103), 3*seed+2)
		if seed%2 == 0 {
			from, to = to, from
		}
		d, way := to-from, 1
		if d < 0 {
			d, way = -d, -1
		}
		marks := spread(t, n, d%n)
		wide := from
		for place, got := range rows(t, from, to, n) {
			nearer := way * (got - wide)
			if slices.Contains(marks, place) {
				nearer--
			}
			if nearer != d/n {
				t.Fatalf("from %d to %d in %d rows: row %d is %d wide, the one ahead of it %d", from, to, n, place, got, wide)
			}
			wide = got
		}
		if wide != to {
			t.Errorf("from %d to %d in %d rows: the last row is %d wide", from, to, n, wide)
		}
	}
}

// TestV2RowsMaxStitches: from 0 to MaxSpread and back each row is 256 nearer.
func TestV2RowsMaxStitches(t *testing.T) {
	up, down := rows(t, 0, api.MaxSpread, api.MaxStitches), rows(t, api.MaxSpread, 0, api.MaxStitches)
	if len(up) != 4096 || len(down) != 4096 {
		t.Fatalf("%d and %d rows", len(up), len(down))
	}
	for i := range 4096 {
		if up[i] != 256*(i+1) || down[i] != 256*(4095-i) {
			t.Fatalf("row %d is %d wide from 0 on, %d from MaxSpread on", i, up[i], down[i])
		}
	}
}
