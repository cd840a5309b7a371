package chart

import (
	"unicode/utf8"

	"tapestry/api"
)

// readGrid reads the line ahead of the rows: its grid, and where the rows begin; or not ok, and where the text cannot go on.
func readGrid(s string) (grid, at int, ok bool) {
	sign, at := utf8.DecodeRuneInString(s)
	grid = gridOf(sign)
	if grid == 0 {
		return 0, 0, false
	}
	if !lineEnds(s, at) {
		return 0, at, false
	}
	return grid, at + 1, true
}

// readRows reads all rows from a byte on, the highest one first; there is at least one.
func readRows(s string, at int) ([][]int, api.Fault) {
	var rows [][]int
	for len(rows) == 0 || at < len(s) {
		row, end := readSigns(s, at)
		if len(row) == 0 || !lineEnds(s, end) {
			return nil, api.Fault{Err: api.ErrForm, At: end}
		}
		if err := wrongRow(rows, row); err != api.OK {
			return nil, api.Fault{Err: err, At: at}
		}
		rows = append(rows, row)
		at = end + 1
	}
	return rows, api.Fault{}
}

// readSigns reads signs as long as there are any: their colours, and where they end.
func readSigns(s string, at int) ([]int, int) {
	var row []int
	for {
		colour, n := Colour(s[at:])
		if n == 0 {
			return row, at
		}
		row = append(row, colour)
		at += n
	}
}

func lineEnds(s string, at int) bool { return at < len(s) && s[at] == '\n' }

// wrongRow is what is wrong with a row that has been read behind others.
func wrongRow(ahead [][]int, row []int) api.Errno {
	if len(ahead) > 0 && len(row) != len(ahead[0]) {
		return api.ErrFit
	}
	if len(row) > api.MaxSide || len(ahead) >= api.MaxSide {
		return api.ErrMany
	}
	return api.OK
}
