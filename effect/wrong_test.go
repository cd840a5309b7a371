package effect_test

import (
	"math"
	"slices"
	"testing"

	"tapestry/api"
)

// beyond are numbers that are no colours, at int's own bounds and at those of shorter numbers too.
func beyond() []int {
	return []int{-1, 62, -2, 63, -62, 64, 256, -256, 65536, math.MaxInt32, math.MinInt32, 1 << 32, 1<<32 + 1, -1 << 32, math.MaxInt - 1, math.MaxInt, math.MinInt, math.MinInt + 1}
}

// amidst are lists of so many threes, with this number as the first, in the middle and as the last.
func amidst(many, number int) [][]int {
	var out [][]int
	for _, at := range []int{0, many / 2, many - 1} {
		l := slices.Repeat([]int{3}, many)
		l[at] = number
		out = append(out, l)
	}
	return out
}

// threads are so many ends and picks of the colour 3.
func threads(ends, picks int) api.Strung {
	return api.Strung{Ends: slices.Repeat([]int{3}, ends), Picks: slices.Repeat([]int{3}, picks)}
}

// plainChart is one of squares whose cells are all of the colour 3.
func plainChart(wide, high int) api.Chart {
	return api.Chart{Grid: api.Square, Wide: wide, High: high, Cells: slices.Repeat([]int{3}, wide*high)}
}

// bothTell: what is wrong with threads, as Shown and Cloth tell it of cloths and charts that go with them (as far as there may be such); OK is that both answer.
func bothTell(t *testing.T, s api.Strung, want api.Errno) {
	t.Helper()
	wide, high := min(len(s.Ends), 64), min(len(s.Picks), 64)
	shownTells(t, s, filled(wide, high, true), want)
	shownTells(t, s, filled(wide, high, false), want)
	c := plainChart(max(wide, 1), max(high, 1))
	if want == api.OK {
		c.Cells = shownByWords(s, filled(wide, high, true)).Cells
	}
	clothTells(t, s, c, want)
}

// TestO1WrongMany: no ends, no picks, neither; MaxSide of each, and more.
func TestO1WrongMany(t *testing.T) {
	none := [][]int{nil, {}, make([]int, 0, 8), []int{1, 2}[:0]}
	for _, one := range none {
		for _, many := range []int{1, 2, 64, 65} {
			some := slices.Repeat([]int{3}, many)
			bothTell(t, api.Strung{Ends: one, Picks: some}, api.ErrMany)
			bothTell(t, api.Strung{Ends: some, Picks: one}, api.ErrMany)
		}
		for _, other := range none {
			bothTell(t, api.Strung{Ends: one, Picks: other}, api.ErrMany)
		}
	}
	for _, many := range []int{1, 2, 63, 64} {
		bothTell(t, threads(many, 1), api.OK)
		bothTell(t, threads(1, many), api.OK)
		bothTell(t, threads(many, 64), api.OK)
		bothTell(t, threads(64, many), api.OK)
	}
	for _, many := range []int{65, 66, 128, 256, 257, 320, 65536, 65537} {
		bothTell(t, threads(many, 1), api.ErrMany)
		bothTell(t, threads(1, many), api.ErrMany)
		bothTell(t, threads(many, 64), api.ErrMany)
		bothTell(t, threads(64, many), api.ErrMany)
		bothTell(t, threads(many, many), api.ErrMany)
	}
}

// TestO1WrongColour: a colour at its bounds and beyond, wherever it stands.
func TestO1WrongColour(t *testing.T) {
	asked := func(colour int, want api.Errno) {
		t.Helper()
		for _, many := range []int{1, 2, 3, 20, 64} {
			for _, l := range amidst(many, colour) {
				for _, others := range []int{1, 5, 64} {
					bothTell(t, api.Strung{Ends: l, Picks: slices.Repeat([]int{3}, others)}, want)
					bothTell(t, api.Strung{Ends: slices.Repeat([]int{3}, others), Picks: l}, want)
				}
				bothTell(t, api.Strung{Ends: l, Picks: l}, want)
			}
		}
	}
	for _, colour := range []int{0, 1, 60, 61} {
		asked(colour, api.OK)
	}
	for _, colour := range beyond() {
		asked(colour, api.ErrRange)
	}
}

// someTruths are such with each thing that T1 names wrong, such without width or height, and right ones.
func someTruths() []api.Truth {
	out := []api.Truth{{}, filled(1, 1, true), filled(64, 64, true), filled(3, 2, true), filled(2, 3, true), filled(64, 1, false), filled(1, 64, false),
		{Wide: 3}, {High: 2}, {Wide: 64}, {High: 64}}
	for _, n := range []int{-1, 65, -64, 66, 128, 1 << 32, -1 << 32, math.MinInt, math.MaxInt} {
		out = append(out, api.Truth{Wide: n}, api.Truth{High: n}, api.Truth{Wide: n, High: n}, api.Truth{Wide: n, High: 2, Bits: make([]bool, 6)}, api.Truth{Wide: 3, High: n, Bits: make([]bool, 6)})
	}
	for _, sides := range [][2]int{{1, 1}, {3, 2}, {2, 3}, {64, 64}, {0, 0}, {3, 0}, {0, 2}} {
		wide, high := sides[0], sides[1]
		for _, bits := range []int{0, 1, wide*high - 1, wide*high + 1, wide * high * 2, 6} {
			out = append(out, api.Truth{Wide: wide, High: high, Bits: make([]bool, max(bits, 0))})
		}
	}
	return out
}

// TestO1WrongTruth: each thing that T1 names, by hand.
func TestO1WrongTruth(t *testing.T) {
	s := threads(3, 2)
	for _, n := range []int{-1, 65, 66, 1 << 32, math.MinInt, math.MaxInt} {
		shownTells(t, s, api.Truth{Wide: n, High: 2, Bits: make([]bool, 6)}, api.ErrRange)
		shownTells(t, s, api.Truth{Wide: 3, High: n, Bits: make([]bool, 6)}, api.ErrRange)
		shownTells(t, s, api.Truth{Wide: n, High: n}, api.ErrRange)
	}
	for _, bits := range []int{0, 1, 5, 7, 12, 4096} {
		shownTells(t, s, api.Truth{Wide: 3, High: 2, Bits: make([]bool, bits)}, api.ErrFit)
	}
	shownTells(t, s, filled(3, 2, true), api.OK)
}

// TestO1Fit: truths that are right, but not as wide as there are ends and as high as there are picks.
func TestO1Fit(t *testing.T) {
	for _, sides := range [][2]int{{1, 1}, {3, 2}, {2, 3}, {4, 4}, {1, 64}, {64, 1}, {63, 64}, {64, 64}} {
		wide, high := sides[0], sides[1]
		s := threads(wide, high)
		for w := range 65 {
			for h := range 65 {
				if w%8 < 5 || h%8 < 5 {
					shownTells(t, s, filled(w, h, true), unless(w == wide && h == high, api.ErrFit))
				}
			}
		}
		shownTells(t, s, filled(wide, high, false), api.OK)
		shownTells(t, s, filled(high, wide, false), unless(wide == high, api.ErrFit))
		for _, none := range []api.Truth{{}, {Wide: wide}, {High: high}, {Bits: []bool{}}, {Wide: wide, Bits: []bool{}}, {High: high, Bits: []bool{}}} {
			shownTells(t, s, none, api.ErrFit)
		}
	}
	shownTells(t, threads(6, 1), filled(3, 2, true), api.ErrFit)
	shownTells(t, threads(3, 2), filled(6, 1, true), api.ErrFit)
	shownTells(t, threads(3, 2), filled(1, 6, true), api.ErrFit)
}

// someThreads are right ones, and such with several things wrong at once.
func someThreads() []api.Strung {
	out := []api.Strung{{}, threads(1, 1), threads(3, 2), threads(2, 3), threads(64, 64), threads(64, 1), threads(1, 64), threads(65, 64), threads(64, 65), threads(65, 65), threads(0, 3), threads(3, 0),
		strung("123", "45"), strung("333", "45"), strung("12", "345")}
	for _, colour := range []int{-1, 62, math.MinInt, math.MaxInt} {
		for _, many := range [][2]int{{1, 1}, {3, 2}, {2, 3}, {3, 0}, {3, 65}, {65, 2}, {64, 64}, {64, 0}} {
			for _, l := range amidst(many[0], colour) {
				some := slices.Repeat([]int{3}, many[1])
				out = append(out, api.Strung{Ends: l, Picks: some}, api.Strung{Ends: some, Picks: l})
			}
		}
		out = append(out, api.Strung{Ends: []int{colour, 3, 3}, Picks: []int{3, colour}})
	}
	return out
}

// TestE4FirstErrorOfShown: where several are wrong, O1's order holds.
func TestE4FirstErrorOfShown(t *testing.T) {
	came := map[api.Errno]int{}
	for _, s := range someThreads() {
		for _, m := range someTruths() {
			want := shownWrong(s, m)
			came[want]++
			shownTells(t, s, m, want)
		}
	}
	hasCome(t, came, 2, api.OK, api.ErrMany, api.ErrRange, api.ErrFit)
	shownTells(t, api.Strung{Ends: []int{62}}, api.Truth{Wide: 65}, api.ErrMany)
	shownTells(t, api.Strung{Ends: slices.Repeat([]int{-1}, 65), Picks: []int{3}}, filled(64, 1, true), api.ErrMany)
	shownTells(t, api.Strung{Ends: []int{62}, Picks: []int{0}}, api.Truth{Wide: 1, High: 1}, api.ErrRange)
	shownTells(t, api.Strung{Ends: []int{0}, Picks: []int{62}}, filled(2, 2, true), api.ErrRange)
	shownTells(t, strung("0", "0"), api.Truth{Wide: 65, High: 1, Bits: make([]bool, 3)}, api.ErrRange)
	shownTells(t, strung("0", "0"), api.Truth{Wide: 2, High: -1}, api.ErrRange)
}

// hasCome: each of these errors was asked for, at least so many times.
func hasCome(t *testing.T, came map[api.Errno]int, least int, errs ...api.Errno) {
	t.Helper()
	for _, err := range errs {
		if came[err] < least {
			t.Errorf("%d was asked for %d times", err, came[err])
		}
	}
}

// someCharts are such with each thing that C1 names wrong, such of the other grid, right and wrong ones, and right ones of squares.
func someCharts() []api.Chart {
	out := []api.Chart{{}, {Grid: api.Square}, {Grid: api.Hex}, picture("123", "123"), picture("333", "333"), picture("33", "33", "33"), picture("3"), picture("9"), plainChart(64, 64), plainChart(64, 1), plainChart(1, 64),
		picture("12", "34", "56"), picture("012", "120", "201"), picture("456")}
	for _, grid := range []int{4, 6, 0, 3, 5, 7, -4, 1<<32 + 4, math.MinInt, math.MaxInt} {
		for _, n := range []int{0, -1, 65, 66, 1 << 32, math.MinInt, math.MaxInt} {
			out = append(out, api.Chart{Grid: grid, Wide: n, High: 2, Cells: make([]int, 6)}, api.Chart{Grid: grid, Wide: 3, High: n, Cells: make([]int, 6)}, api.Chart{Grid: grid, Wide: n, High: n})
		}
		for _, cells := range []int{0, 1, 5, 6, 7, 12} {
			out = append(out, api.Chart{Grid: grid, Wide: 3, High: 2, Cells: make([]int, cells)})
		}
		for _, colour := range []int{-1, 0, 61, 62, math.MinInt, math.MaxInt} {
			for _, l := range slices.Concat(amidst(6, colour), amidst(5, colour)) {
				out = append(out, api.Chart{Grid: grid, Wide: 3, High: 2, Cells: l}, api.Chart{Grid: grid, Wide: 65, High: 2, Cells: l})
			}
			out = append(out, api.Chart{Grid: grid, Wide: 1, High: 1, Cells: []int{colour}})
		}
	}
	return out
}

// TestO2Wrong: charts with each thing that C1 names wrong, charts of the other grid, and several things at once: O2's order holds.
func TestO2Wrong(t *testing.T) {
	came := map[api.Errno]int{}
	for _, c := range someCharts() {
		want := stringWrong(c)
		if want == api.OK {
			if _, found := searched(c); !found {
				want = api.ErrNone
			}
		}
		came[want]++
		stringTells(t, c, want)
	}
	hasCome(t, came, 2, api.OK, api.ErrKind, api.ErrRange, api.ErrFit, api.ErrNone)
}

// chartTells: what is wrong with a chart, as String and Cloth tell it, the latter whatever threads it is asked with.
func chartTells(t *testing.T, c api.Chart, want api.Errno) {
	t.Helper()
	stringTells(t, c, want)
	for _, s := range []api.Strung{threads(1, 1), threads(3, 2), threads(6, 1), threads(64, 64)} {
		clothTells(t, s, c, want)
	}
}

// TestO2And3WrongChart: what is wrong, written out.
func TestO2And3WrongChart(t *testing.T) {
	for _, grid := range []int{0, 1, 3, 5, 7, 8, -4, -6, 46, 1<<32 + 4, math.MinInt, math.MaxInt} {
		chartTells(t, api.Chart{Grid: grid, Wide: 1, High: 1, Cells: []int{0}}, api.ErrKind)
		chartTells(t, api.Chart{Grid: grid, Wide: 65, High: 1, Cells: []int{62}}, api.ErrKind)
		chartTells(t, api.Chart{Grid: grid}, api.ErrKind)
	}
	for _, side := range []int{0, -1, 65, 66, 128, math.MinInt, math.MaxInt} {
		for _, grid := range []int{api.Square, api.Hex} {
			chartTells(t, api.Chart{Grid: grid, Wide: side, High: 1, Cells: slices.Repeat([]int{3}, min(max(side, 0), 128))}, api.ErrRange)
			chartTells(t, api.Chart{Grid: grid, Wide: 1, High: side, Cells: slices.Repeat([]int{3}, min(max(side, 0), 128))}, api.ErrRange)
			chartTells(t, api.Chart{Grid: grid, Wide: side, High: side}, api.ErrRange)
		}
	}
	for _, cells := range []int{0, 1, 5, 7, 4096} {
		chartTells(t, api.Chart{Grid: api.Square, Wide: 3, High: 2, Cells: make([]int, cells)}, api.ErrFit)
		chartTells(t, api.Chart{Grid: api.Hex, Wide: 3, High: 2, Cells: slices.Repeat([]int{62}, cells)}, api.ErrFit)
	}
	for _, colour := range beyond() {
		for _, many := range []int{1, 6, 64} {
			for _, l := range amidst(many, colour) {
				chartTells(t, api.Chart{Grid: api.Square, Wide: many, High: 1, Cells: l}, api.ErrRange)
				chartTells(t, api.Chart{Grid: api.Square, Wide: 1, High: many, Cells: l}, api.ErrRange)
				chartTells(t, api.Chart{Grid: api.Hex, Wide: many, High: 1, Cells: l}, api.ErrRange)
			}
		}
	}
}

// inHex is a chart of triangles with the same cells.
func inHex(c api.Chart) api.Chart {
	c.Grid = api.Hex
	return c
}

// TestO2And3OtherGrid: charts of triangles with which nothing is wrong, those too that no threads show.
func TestO2And3OtherGrid(t *testing.T) {
	for _, c := range []api.Chart{picture("0"), picture("333", "333"), picture("12", "34", "56"), picture("012", "120", "201"), plainChart(64, 64), plainChart(1, 64)} {
		stringTells(t, inHex(c), api.ErrFit)
		clothTells(t, threads(c.Wide, c.High), inHex(c), api.ErrFit)
		clothTells(t, threads(1, 2), inHex(c), api.ErrFit)
	}
}

// TestO3Fit: pictures that are right, but not as wide as there are ends and as high as there are picks.
func TestO3Fit(t *testing.T) {
	for _, sides := range [][2]int{{1, 1}, {3, 2}, {2, 3}, {4, 4}, {1, 64}, {64, 1}, {63, 64}, {64, 64}} {
		wide, high := sides[0], sides[1]
		for w := 1; w <= 64; w++ {
			for h := 1; h <= 64; h++ {
				if w%8 < 5 || h%8 < 5 {
					clothTells(t, threads(wide, high), plainChart(w, h), unless(w == wide && h == high, api.ErrFit))
				}
			}
		}
		clothTells(t, threads(wide, high), plainChart(wide, high), api.OK)
		clothTells(t, threads(wide, high), plainChart(high, wide), unless(wide == high, api.ErrFit))
	}
	clothTells(t, threads(6, 1), plainChart(3, 2), api.ErrFit)
	clothTells(t, threads(3, 2), plainChart(6, 1), api.ErrFit)
	clothTells(t, threads(3, 2), plainChart(1, 6), api.ErrFit)
}

// TestE4FirstErrorOfCloth: where several are wrong, O3's order holds.
func TestE4FirstErrorOfCloth(t *testing.T) {
	came := map[api.Errno]int{}
	for _, s := range someThreads() {
		for _, c := range someCharts() {
			want := clothWrong(s, c)
			came[want]++
			clothTells(t, s, c, want)
		}
	}
	hasCome(t, came, 2, api.OK, api.ErrMany, api.ErrRange, api.ErrKind, api.ErrFit, api.ErrNone)
	clothTells(t, api.Strung{Ends: []int{62}}, api.Chart{}, api.ErrMany)
	clothTells(t, api.Strung{Ends: []int{62}, Picks: []int{1}}, api.Chart{}, api.ErrRange)
	clothTells(t, strung("1", "2"), api.Chart{}, api.ErrKind)
	clothTells(t, strung("1", "2"), api.Chart{Grid: 6, Wide: 65, High: 1}, api.ErrRange)
	clothTells(t, strung("1", "2"), api.Chart{Grid: 6, Wide: 2, High: 1, Cells: []int{62}}, api.ErrFit)
	clothTells(t, strung("1", "2"), api.Chart{Grid: 6, Wide: 2, High: 1, Cells: []int{62, 1}}, api.ErrRange)
	clothTells(t, strung("1", "2"), api.Chart{Grid: 4, Wide: 2, High: 1, Cells: []int{62, 1}}, api.ErrRange)
	clothTells(t, strung("1", "2"), inHex(picture("3")), api.ErrFit)
	clothTells(t, strung("1", "2"), picture("33"), api.ErrFit)
	clothTells(t, strung("1", "2"), picture("3", "3"), api.ErrFit)
	clothTells(t, strung("1", "2"), picture("3"), api.ErrNone)
}
