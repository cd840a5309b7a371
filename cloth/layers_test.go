package cloth_test

import (
	"cmp"
	"slices"
	"testing"

	"tapestry/api"
)

// areLayers holds sheets that are told against H3.
func areLayers(t *testing.T, m api.Truth, is [][]bool, told [][]int) {
	t.Helper()
	var seen []int
	for i, sheet := range told {
		if !slices.IsSorted(sheet) || !isSheet(is, sheet) {
			t.Fatalf("%v: %v is no sheet, or its strands don't rise", m, sheet)
		}
		for _, s := range sheet {
			if countOver(is, s) != countOver(is, sheet[0]) {
				t.Fatalf("%v: over the strands of %v are not as many each", m, sheet)
			}
		}
		if i > 0 && !isAhead(is, told[i-1], sheet) {
			t.Fatalf("%v: %v is told ahead of %v", m, told[i-1], sheet)
		}
		seen = append(seen, sheet...)
	}
	// Over is so that a strand is in one sheet alone: where each strand is seen once, no sheet is missing.
	slices.Sort(seen)
	if !slices.Equal(seen, upTo(0, m.Wide+m.High)) {
		t.Fatalf("%v: the sheets %v are not of all strands, of each once", m, told)
	}
}

// isAhead tells whether a sheet is to be told ahead of another one.
func isAhead(is [][]bool, one, other []int) bool {
	return cmp.Or(cmp.Compare(countOver(is, one[0]), countOver(is, other[0])), cmp.Compare(one[0], other[0])) < 0
}

// TestH3AllSheets: of small cloths all sheets that there are among all sets of strands, in the order of the promise.
func TestH3AllSheets(t *testing.T) {
	for _, m := range small() {
		if m.Wide+m.High > 7 {
			continue
		}
		is := overByWords(m)
		want := sheetsByWords(is)
		slices.SortFunc(want, func(one, other []int) int {
			if isAhead(is, one, other) {
				return -1
			}
			return 1
		})
		if got := layers(t, m); !sameSheets(got, want) {
			t.Fatalf("%v: %v, not %v", m, got, want)
		}
	}
}

func TestH3ByTheWords(t *testing.T) {
	for _, m := range slices.Concat(small(), great()) {
		areLayers(t, m, overByWords(m), layers(t, m))
	}
}

// TestH3WhatIsTold: among the cloths that are held against the words are those with one sheet and with several, with sheets
// over which as many strands are, and with ones whose first strands don't rise.
func TestH3WhatIsTold(t *testing.T) {
	for _, cloths := range [][]api.Truth{small(), great()} {
		one, several, asMany, falling := 0, 0, 0, 0
		for _, m := range cloths {
			is, l := overByWords(m), layers(t, m)
			if len(l) == 1 {
				one++
			} else {
				several++
			}
			for i := 1; i < len(l); i++ {
				if countOver(is, l[i-1][0]) == countOver(is, l[i][0]) {
					asMany++
				}
				if l[i-1][0] > l[i][0] {
					falling++
				}
			}
		}
		if one < 5 || several < 5 || asMany < 5 || falling < 5 {
			t.Errorf("%d with one sheet, %d with several; %d pairs of sheets with as many over them, %d whose first strands fall", one, several, asMany, falling)
		}
	}
}

// stacked is plain weaves of two ends and two picks each, one above the other; which pair of ends and which of picks is whose, and which plain
// weave is the highest, the orders say.
func stacked(ends, picks []int) api.Truth {
	return truthOf(2*len(ends), 2*len(picks), func(row, place int) bool {
		end, pick := slices.Index(ends, place/2), slices.Index(picks, row/2)
		return end < pick || end == pick && (row+place)%2 == 0
	})
}

// TestH3Stacked: many sheets of several strands each, up to as many as there is room for, from the highest to the lowest.
func TestH3Stacked(t *testing.T) {
	for many := 1; many <= 32; many++ {
		next := strew(many)
		ends, picks := upTo(0, many), upTo(0, many)
		for i := range many {
			j, k := i+next(many-i), i+next(many-i)
			ends[i], ends[j] = ends[j], ends[i]
			picks[i], picks[k] = picks[k], picks[i]
		}
		var want [][]int
		for i := range many {
			end, pick := 2*ends[i], 2*many+2*picks[i]
			want = append(want, []int{end, end + 1, pick, pick + 1})
		}
		if got := layers(t, stacked(ends, picks)); !sameSheets(got, want) {
			t.Errorf("%v and %v: %v, not %v", ends, picks, got, want)
		}
	}
}

// TestH3Lift: what Lift tells is whole sheets, from the highest on.
func TestH3Lift(t *testing.T) {
	for _, m := range slices.Concat(small(), great()) {
		lifted, l := lift(t, m), layers(t, m)
		if len(lifted) == 0 != (len(l) == 1) {
			t.Fatalf("%v: %v comes off, of %v", m, lifted, l)
		}
		for _, sheet := range l {
			in := slices.ContainsFunc(sheet, func(s int) bool { return slices.Contains(lifted, s) })
			all := !slices.ContainsFunc(sheet, func(s int) bool { return !slices.Contains(lifted, s) })
			if in != all {
				t.Fatalf("%v: %v comes off, but not all of %v", m, lifted, sheet)
			}
		}
	}
}

// TestH3Behind: seen from behind a cloth has the same sheets, and those of several strands come the other way round.
func TestH3Behind(t *testing.T) {
	for _, m := range slices.Concat(small(), great()) {
		front, back := layers(t, m), layers(t, behind(m))
		slices.Reverse(back)
		if !sameSheets(several(front), several(back)) {
			t.Fatalf("%v: %v, from behind %v", m, front, back)
		}
		slices.SortFunc(front, slices.Compare)
		slices.SortFunc(back, slices.Compare)
		if !sameSheets(front, back) {
			t.Fatalf("%v: other sheets from behind: %v, %v", m, front, back)
		}
	}
}

// several are the sheets of several strands.
func several(sheets [][]int) [][]int {
	var out [][]int
	for _, sheet := range sheets {
		if len(sheet) > 1 {
			out = append(out, sheet)
		}
	}
	return out
}
