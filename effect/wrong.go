package effect

import (
	"slices"

	"tapestry/api"
	"tapestry/chart"
)

// wrongThreads is what is wrong with threads.
func wrongThreads(s api.Strung) api.Errno {
	if !isSide(len(s.Ends)) || !isSide(len(s.Picks)) {
		return api.ErrMany
	}
	if slices.ContainsFunc(s.Ends, isNoColour) || slices.ContainsFunc(s.Picks, isNoColour) {
		return api.ErrRange
	}
	return api.OK
}

func isSide(n int) bool { return n >= 1 && n <= api.MaxSide }

func isNoColour(n int) bool { return n < 0 || n >= api.MaxColour }

// wrongPicture is what is wrong with a chart that is to be woven: threads cross as squares do.
func wrongPicture(c api.Chart) api.Errno {
	if err := chart.Wrong(c); err != api.OK {
		return err
	}
	if c.Grid != api.Square {
		return api.ErrFit
	}
	return api.OK
}

// goesWith tells whether there is an end for each place of a row, and a pick for each row.
func goesWith(s api.Strung, wide, high int) bool {
	return len(s.Ends) == wide && len(s.Picks) == high
}
