package shape_test

import (
	"slices"
	"testing"

	"tapestry/api"
)

// spoil changes a list, and the spare room behind it.
func spoil(l []int) {
	l = l[:cap(l)]
	for i := range l {
		l[i] = -7 - l[i]
	}
}

// answersAreNew: what is answered, its spare room too, has nothing to do with another answer, ahead of it or behind it.
func answersAreNew(t *testing.T, ask func() []int) {
	t.Helper()
	ahead, spoilt := ask(), ask()
	want := slices.Clone(spoilt)
	spoil(spoilt)
	same(t, ahead, want, "an answer ahead of one that is changed")
	same(t, ask(), want, "an answer behind one that is changed")
}

// TestE2NewMemory: the caller may change what Spread and Rows answer.
func TestE2NewMemory(t *testing.T) {
	for _, x := range [][2]int{{4, 2}, {1, 0}, {1, 1}, {9, 9}, {100, 7}, {api.MaxSpread, 5}, {api.MaxSpread, 0}, {api.MaxSpread, api.MaxSpread}} {
		answersAreNew(t, func() []int { return spread(t, x[0], x[1]) })
	}
	for _, x := range [][3]int{{10, 20, 4}, {20, 3, 7}, {5, 5, 3}, {0, 0, 1}, {0, 3, 4}, {0, api.MaxSpread, api.MaxStitches}, {api.MaxSpread, 0, api.MaxStitches}} {
		answersAreNew(t, func() []int { return rows(t, x[0], x[1], x[2]) })
	}
}

// TestE2SpreadBesideOthers: answers of Spread, Count and Rows that have to do with the same marks have nothing to do with each other.
func TestE2SpreadBesideOthers(t *testing.T) {
	marks := spread(t, 4, 2)
	made := rows(t, 5, 7, 4)
	spoil(marks)
	same(t, made, []int{5, 6, 6, 7}, "Rows, its marks changed", 5, 7, 4)
	same(t, rows(t, 5, 7, 4), []int{5, 6, 6, 7}, "Rows, behind marks that are changed", 5, 7, 4)
	if n := count(t, 4, 2, 2); n != 1 {
		t.Errorf("of two marks among four places, behind marks that are changed, %d are below 2", n)
	}
	spoil(made)
	same(t, spread(t, 4, 2), []int{1, 3}, "Spread, behind rows that are changed", 4, 2)
}

// TestE1SameAnswers: asked again, with others and with wrong ones between, each call answers the same.
func TestE1SameAnswers(t *testing.T) {
	var first [][]int
	for round := range 3 {
		for seed := range 50 {
			total, marks := strewnPlaces(seed)
			marks = min(marks, 500)
			place := strewn(total+1, seed)
			answer := slices.Concat(spread(t, total, marks), []int{count(t, total, marks, place)}, rows(t, total, place, 1+marks))
			spreadTells(t, total, total+1, api.ErrRange)
			rowsTells(t, total, place, 0, api.ErrRange)
			if round == 0 {
				first = append(first, answer)
				continue
			}
			same(t, answer, first[seed], "asked again", total, marks, place)
		}
	}
}
