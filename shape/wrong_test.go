package shape_test

import (
	"math"
	"testing"

	"tapestry/api"
	"tapestry/shape"
)

// spreadTells, countTells and rowsTells hold the error against the one that is wanted; beside one all else must be zero.
func spreadTells(t *testing.T, total, marks int, want api.Errno) {
	t.Helper()
	l, err := shape.Spread(total, marks)
	if err != want || want != api.OK && l != nil || want == api.OK && len(l) != marks {
		t.Errorf("%d marks among %d places: %d of them, %d, not %d", marks, total, len(l), err, want)
	}
}

func countTells(t *testing.T, total, marks, place int, want api.Errno) {
	t.Helper()
	n, err := shape.Count(total, marks, place)
	if err != want || want != api.OK && n != 0 {
		t.Errorf("of %d marks among %d places those below %d: %d, %d, not %d", marks, total, place, n, err, want)
	}
}

func rowsTells(t *testing.T, from, to, rows int, want api.Errno) {
	t.Helper()
	l, err := shape.Rows(from, to, rows)
	if err != want || want != api.OK && l != nil || want == api.OK && len(l) != rows {
		t.Errorf("from %d to %d in %d rows: %d of them, %d, not %d", from, to, rows, len(l), err, want)
	}
}

// outside are numbers that are beyond all bounds, at int's own and at those of shorter numbers; twice some of them, or some of them one by the other, would wrap round to what is allowed.
func outside() []int {
	return []int{math.MinInt, math.MinInt + 1, math.MinInt + 4, math.MinInt / 2, -1 << 40, -1<<32 + 1, math.MinInt32, -api.MaxSpread, -api.MaxStitches, -2, -1,
		api.MaxSpread + 1, api.MaxSpread + 2, 2 * api.MaxSpread, math.MaxInt32, 1<<32 + 1, 1 << 43, 1 << 62, math.MaxInt - 1, math.MaxInt}
}

// numbers are those, and some that are allowed at one place or another.
func numbers() []int {
	return append(outside(), 0, 1, 2, 3, 4, 5, api.MaxStitches-1, api.MaxStitches, api.MaxStitches+1, 1<<19, api.MaxSpread-1, api.MaxSpread)
}

// told is what must be, if all that a promise asks for holds.
func told(all ...bool) api.Errno {
	for _, holds := range all {
		if !holds {
			return api.ErrRange
		}
	}
	return api.OK
}

// TestV1WrongKnown: total 0, below 0 and one more than MaxSpread; marks below 0 and one more than total; place likewise; each alone, and what is next to it and allowed.
func TestV1WrongKnown(t *testing.T) {
	for _, x := range []struct {
		total, marks int
		want         api.Errno
	}{
		{1, 0, api.OK}, {0, 0, api.ErrRange}, {-1, 0, api.ErrRange}, {math.MinInt, 0, api.ErrRange},
		{1 << 20, 0, api.OK}, {1 << 20, 1 << 20, api.OK}, {1<<20 + 1, 0, api.ErrRange}, {1<<20 + 1, 1, api.ErrRange}, {1<<20 + 1, 1<<20 + 1, api.ErrRange}, {math.MaxInt, 0, api.ErrRange}, {math.MaxInt, 5, api.ErrRange},
		{5, -1, api.ErrRange}, {5, 5, api.OK}, {5, 6, api.ErrRange}, {1, 1, api.OK}, {1, 2, api.ErrRange}, {1 << 20, 1<<20 + 1, api.ErrRange},
		{5, math.MinInt, api.ErrRange}, {5, math.MaxInt, api.ErrRange}, {0, 1, api.ErrRange}, {-1, -1, api.ErrRange}, {-3, -4, api.ErrRange}, {math.MinInt, math.MaxInt, api.ErrRange}, {math.MaxInt, math.MaxInt, api.ErrRange}, {math.MinInt, math.MinInt, api.ErrRange},
	} {
		spreadTells(t, x.total, x.marks, x.want)
		countTells(t, x.total, x.marks, 0, x.want)
		if x.want == api.OK {
			countTells(t, x.total, x.marks, x.total, api.OK)
			for _, place := range []int{math.MinInt, -x.total, -1, x.total + 1, 2*x.total + 1, math.MaxInt} {
				countTells(t, x.total, x.marks, place, api.ErrRange)
			}
		}
	}
}

// TestV1SpreadWrong: each number as total and as marks.
func TestV1SpreadWrong(t *testing.T) {
	for _, total := range numbers() {
		for _, marks := range append(numbers(), total-1, total, total+1) {
			spreadTells(t, total, marks, told(total >= 1, total <= 1048576, marks >= 0, marks <= total))
		}
	}
}

// TestV1CountWrong: each number as total, as marks and as place.
func TestV1CountWrong(t *testing.T) {
	for _, total := range numbers() {
		for _, marks := range append(numbers(), total-1, total, total+1) {
			for _, place := range append(numbers(), total-1, total, total+1) {
				countTells(t, total, marks, place, told(total >= 1, total <= 1048576, marks >= 0, marks <= total, place >= 0, place <= total))
			}
		}
	}
}

// TestV1WrongByOne: all that are few, those too that are out of range.
func TestV1WrongByOne(t *testing.T) {
	for total := -4; total <= 24; total++ {
		for marks := -4; marks <= 28; marks++ {
			can := total >= 1 && marks >= 0 && marks <= total
			spreadTells(t, total, marks, told(can))
			for place := -4; place <= 28; place++ {
				countTells(t, total, marks, place, told(can, place >= 0, place <= total))
			}
		}
	}
}

// TestV2WrongKnown: from and to below 0 and one more than MaxSpread; rows 0, below 0 and one more than MaxStitches; each alone.
func TestV2WrongKnown(t *testing.T) {
	for _, n := range []int{-1, math.MinInt, 1<<20 + 1, math.MaxInt} {
		rowsTells(t, n, 3, 3, api.ErrRange)
		rowsTells(t, 3, n, 3, api.ErrRange)
		rowsTells(t, n, n, 3, api.ErrRange)
	}
	for _, n := range []int{0, -1, math.MinInt, 4097, math.MaxInt} {
		rowsTells(t, 3, 5, n, api.ErrRange)
		rowsTells(t, 5, 3, n, api.ErrRange)
		rowsTells(t, 3, 3, n, api.ErrRange)
		rowsTells(t, 0, 0, n, api.ErrRange)
	}
	for _, n := range []int{1, 4096} {
		rowsTells(t, 0, 1<<20, n, api.OK)
		rowsTells(t, 1<<20, 0, n, api.OK)
		rowsTells(t, 0, 0, n, api.OK)
		rowsTells(t, 1<<20, 1<<20, n, api.OK)
	}
	rowsTells(t, math.MinInt, math.MaxInt, 3, api.ErrRange)
	rowsTells(t, math.MaxInt, math.MinInt, 3, api.ErrRange)
}

// TestV2RowsWrong: each number as from, as to and as rows.
func TestV2RowsWrong(t *testing.T) {
	for _, from := range numbers() {
		for _, to := range numbers() {
			for _, rows := range numbers() {
				rowsTells(t, from, to, rows, told(from >= 0, from <= 1048576, to >= 0, to <= 1048576, rows >= 1, rows <= 4096))
			}
		}
	}
}

// TestV2WrongByOne: all that are few, those too that are out of range.
func TestV2WrongByOne(t *testing.T) {
	for from := -4; from <= 9; from++ {
		for to := -4; to <= 9; to++ {
			for rows := -4; rows <= 9; rows++ {
				rowsTells(t, from, to, rows, told(from >= 0, to >= 0, rows >= 1))
			}
		}
	}
}
