package truth

import (
	"iter"
	"slices"

	"tapestry/api"
)

// endless is the length of a run that goes round for ever: more than any other one can have.
const endless = api.MaxTruth + 1

// blank has truths of which none holds.
func blank(wide, high int) api.Truth {
	return api.Truth{Wide: wide, High: high, Bits: make([]bool, wide*high)}
}

// row is the row y of truths, in their own memory: what is set in it is set in them.
func row(m api.Truth, y int) []bool { return m.Bits[y*m.Wide : (y+1)*m.Wide] }

// rows goes over the rows and their numbers: over those without width too, which cutting up the bits would not find.
func rows(m api.Truth) iter.Seq2[int, []bool] {
	return func(yield func(int, []bool) bool) {
		for y := range m.High {
			if !yield(y, row(m, y)) {
				return
			}
		}
	}
}

// join makes hold in one row what holds in another one, as wide.
func join(into, from []bool) {
	for x, holds := range from {
		into[x] = into[x] || holds
	}
}

// longest is the longest run in all rows of what holds, or of what doesn't.
func longest(m api.Truth, holds bool) int {
	most := 0
	for _, r := range rows(m) {
		most = max(most, longestIn(r, holds))
	}
	return most
}

// longestIn is the longest run in one row. It goes over it twice, so that a run over its end is seen as a whole.
func longestIn(r []bool, holds bool) int {
	if !slices.Contains(r, !holds) {
		return endless
	}
	most, run := 0, 0
	for range 2 {
		for _, is := range r {
			if is == holds {
				run++
			} else {
				run = 0
			}
			most = max(most, run)
		}
	}
	return most
}
