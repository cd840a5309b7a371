package effect_test

import (
	"math"
	"slices"
	"testing"

	"tapestry/api"
	"tapestry/effect"
)

// TestExample19String: of the document: a picture of one cell 5: an end of colour 0, a pick of colour 5.
func TestExample19String(t *testing.T) {
	isStrung(t, picture("5"), strung("0", "5"))
}

// TestO2ByHand: threads written out.
func TestO2ByHand(t *testing.T) {
	for _, x := range []struct {
		c    api.Chart
		want api.Strung
	}{
		{picture("456"), strung("056", "4")},   // the first end is free, and so the pick is not
		{picture("045"), strung("005", "4")},   // an end of 0 shows the first cell, so that the second end is free
		{picture("0001"), strung("0000", "1")}, // the pick shows what no end need
		{picture("1000"), strung("0000", "1")},
		{picture("4", "5", "6"), strung("0", "456")},
		{picture("0", "5", "0"), strung("0", "050")}, // the end shows what two picks need not
		{picture("000", "000"), strung("000", "00")},
		{picture("33", "33"), strung("00", "33")},
		{picture("ZZ", "ZZ", "ZZ"), strung("00", "ZZZ")},
		{picture("01", "10"), strung("00", "11")},
		{picture("10", "01"), strung("00", "11")},
		{picture("12", "12"), strung("02", "11")},
		{picture("11", "22"), strung("00", "12")},
		{picture("01", "23"), strung("03", "12")}, // all cells unlike
		{picture("12", "34"), strung("14", "23")}, // an end of 0 would want both picks, and they the other end in two colours
		{picture("12", "21"), strung("11", "22")},
		{picture("43", "21"), strung("23", "41")},            // of the first end's colours the lesser one is in the second row
		{picture("12", "12", "34"), strung("14", "223")},     // the lesser colour would do for the first two picks
		{picture("13", "12", "32"), strung("12", "303")},     // a pick in the middle is free behind ends that are not
		{picture("133", "121"), strung("101", "32")},         // an end in the middle is free
		{picture("122", "322", "342"), strung("322", "104")}, // 0 and 1 are no help for the first end, 0 none for the others
		{picture("0011", "0001", "0010"), strung("0000", "111")},
		{picture("012", "012", "012"), strung("002", "111")},
		{picture("000", "111", "222"), strung("000", "012")},
		{picture("512", "527", "588"), strung("517", "228")}, // an end of 5 shows its whole column, and wants nothing of the picks
	} {
		isStrung(t, x.c, x.want)
	}
}

// TestO2NoneByHand: pictures that no threads show.
func TestO2NoneByHand(t *testing.T) {
	for _, c := range []api.Chart{
		picture("01", "23", "45"), // each end shows a cell of one row alone, so that both cells of the third one are the pick's
		picture("12", "34", "56"),
		picture("024", "135"),
		picture("012", "120", "201"),
		picture("123", "231", "312"),
		picture("012", "345", "678"),
		picture("0123", "1230"),
		picture("01", "12", "23", "30"),
		picture("0111", "1233", "1453", "1673"), // the cells amidst others
	} {
		stringTells(t, c, api.ErrNone)
	}
}

// TestO2OneCell: a picture of each colour alone.
func TestO2OneCell(t *testing.T) {
	for colour := range 62 {
		isStrung(t, chartOf(1, []int{colour}), api.Strung{Ends: []int{0}, Picks: []int{colour}})
	}
}

// TestO2Alike: all cells of one colour, small pictures and great ones: the ends are free.
func TestO2Alike(t *testing.T) {
	for _, sides := range [][2]int{{1, 1}, {1, 2}, {2, 1}, {3, 3}, {5, 2}, {1, 64}, {64, 1}, {63, 64}, {64, 64}} {
		for colour := range 62 {
			c := chartOf(sides[0], slices.Repeat([]int{colour}, sides[0]*sides[1]))
			isStrung(t, c, api.Strung{Ends: make([]int, sides[0]), Picks: slices.Repeat([]int{colour}, sides[1])})
		}
	}
}

// drawnCells are so many without order, of so many colours from this one on.
func drawnCells(next func(below int) int, many, least, of int) []int {
	out := make([]int, many)
	for i := range out {
		out[i] = least + next(of)
	}
	return out
}

// TestO2OneRow: the pick is the first colour that is not 0, and the ends show what it does not.
func TestO2OneRow(t *testing.T) {
	for seed := range 600 {
		next := strew(seed)
		of := []int{1, 2, 3, 9, 40}[next(5)]
		l := drawnCells(next, 1+next(64), next(2)*next(20), of)
		want := api.Strung{Ends: slices.Clone(l), Picks: []int{0}}
		if at := slices.IndexFunc(l, func(n int) bool { return n != 0 }); at >= 0 {
			want.Picks[0] = l[at]
		}
		for x := range l {
			if l[x] == want.Picks[0] {
				want.Ends[x] = 0
			}
		}
		isStrung(t, chartOf(len(l), l), want)
	}
}

// TestO2OneColumn: the end is free, and each pick is its cell.
func TestO2OneColumn(t *testing.T) {
	for seed := range 600 {
		next := strew(seed)
		l := drawnCells(next, 1+next(64), next(20), 1+next(42))
		isStrung(t, chartOf(1, l), api.Strung{Ends: []int{0}, Picks: l})
	}
}

// isFirst holds String against a second way to find the first threads, whatever the picture; it tells whether there are any.
func isFirst(t *testing.T, c api.Chart, want api.Strung, found bool) bool {
	t.Helper()
	if !found {
		stringTells(t, c, api.ErrNone)
		return false
	}
	isStrung(t, c, want)
	weaves(t, want, c, clothByWords(want, c))
	return true
}

// small are pictures that are tried whole: all of some sides, of a few colours.
type small struct {
	wide, high int
	cells, try []int // of which colours cells are, and of which the threads that are tried
}

// steps are how many threads are tried at most, of all the pictures together.
func (x small) steps() float64 {
	pictures := math.Pow(float64(len(x.cells)), float64(x.wide*x.high))
	return pictures * math.Pow(float64(len(x.try)), float64(x.wide+x.high))
}

// smallOnes are of up to three by three cells, and of all widths and heights of few cells; 0 is tried though no cell is of it.
func smallOnes() []small {
	var out []small
	for wide := 1; wide <= 8; wide++ {
		for high := 1; high <= 8; high++ {
			for _, x := range []small{
				{wide, high, []int{0, 1}, []int{0, 1, 2}},
				{wide, high, []int{1, 2}, []int{0, 1, 2}},
				{wide, high, []int{0, 1, 2}, []int{0, 1, 2}},
				{wide, high, []int{2, 40, 61}, []int{0, 2, 40, 61}},
				{wide, high, []int{0, 1, 2, 3}, []int{0, 1, 2, 3}},
				{wide, high, []int{1, 2, 3, 4}, []int{0, 1, 2, 3, 4}},
				{wide, high, []int{0, 1, 2, 3, 60, 61}, []int{0, 1, 2, 3, 4, 60, 61}},
			} {
				if x.steps() <= 1e8 {
					out = append(out, x)
				}
			}
		}
	}
	return out
}

// TestO2AllSmall: all of these pictures, held against threads that are all tried.
func TestO2AllSmall(t *testing.T) {
	came := map[bool]int{}
	for _, x := range smallOnes() {
		for _, cells := range listsOf(x.cells, x.wide*x.high) {
			c := chartOf(x.wide, cells)
			want, found := tried(c, x.try)
			came[isFirst(t, c, want, found)]++
		}
	}
	if came[true] < 10000 || came[false] < 10000 {
		t.Errorf("%v pictures were tried", came)
	}
}

// TestO2BothWays: the two second ways of these tests say the same.
func TestO2BothWays(t *testing.T) {
	for _, sides := range [][2]int{{1, 1}, {1, 4}, {4, 1}, {2, 2}, {2, 3}, {3, 2}, {3, 3}} {
		for _, cells := range listsOf([]int{0, 1, 2}, sides[0]*sides[1]) {
			c := chartOf(sides[0], cells)
			one, ok := tried(c, []int{0, 1, 2})
			other, found := searched(c)
			if ok != found || !sameThreads(one, other) {
				t.Errorf("%s: %s, %v, and %s, %v", aboutChart(c), aboutThreads(one), ok, aboutThreads(other), found)
			}
		}
	}
}

// changed is a picture of which so many cells, drawn, are of other colours.
func changed(next func(below int) int, c api.Chart, many int) api.Chart {
	c.Cells = slices.Clone(c.Cells)
	for range many {
		c.Cells[next(len(c.Cells))] = next(62)
	}
	return c
}

// drawnPicture is one that threads show, but for a few cells that may be changed.
func drawnPicture(next func(below int) int, wide, high int) api.Chart {
	s := drawnThreads(next, wide, high, 1+next(8))
	c := shownByWords(s, drawnCloth(next, wide, high, next(9)))
	return changed(next, c, next(4))
}

// TestO2Drawn: pictures without order, held against a search: the threads are the first ones, and what Shown makes of them and their cloth is the picture.
func TestO2Drawn(t *testing.T) {
	came := map[bool]int{}
	for seed := range 4000 {
		next := strew(seed)
		c := drawnPicture(next, 1+next(10), 1+next(10))
		if next(8) == 0 {
			c.Cells = drawnCells(next, len(c.Cells), next(3), 1+next(4))
		}
		want, found := searched(c)
		came[isFirst(t, c, want, found)]++
	}
	if came[true] < 800 || came[false] < 800 {
		t.Errorf("%v pictures were drawn", came)
	}
}

// TestO2ThreadsThatShow: of a picture that threads show there are first ones, and none of these is behind theirs.
func TestO2ThreadsThatShow(t *testing.T) {
	for seed := range 2000 {
		s, m := drawnAsked(seed)
		c := shownByWords(s, m)
		got, err := effect.String(c)
		if err != api.OK || len(got.Ends) != c.Wide || len(got.Picks) != c.High || !someShows(got, c) {
			t.Errorf("%s: %s, %d", aboutChart(c), aboutThreads(got), err)
			continue
		}
		if slices.Compare(slices.Concat(got.Ends, got.Picks), slices.Concat(s.Ends, s.Picks)) > 0 {
			t.Errorf("%s: %s are behind %s", aboutChart(c), aboutThreads(got), aboutThreads(s))
		}
		weaves(t, got, c, clothByWords(got, c))
	}
}
