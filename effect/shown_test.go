package effect_test

import (
	"slices"
	"strings"
	"testing"

	"tapestry/api"
	"tapestry/effect"
)

// TestExample19Shown: of the document: an end of colour 0, a pick of colour 5.
func TestExample19Shown(t *testing.T) {
	shows(t, strung("0", "5"), cloth("0"), picture("5"))
	shows(t, strung("0", "5"), cloth("1"), picture("0"))
}

// TestO1ByHand: pictures written out.
func TestO1ByHand(t *testing.T) {
	for _, x := range []struct {
		s    api.Strung
		m    api.Truth
		want api.Chart
	}{
		{strung("7", "3456"), cloth("1", "0", "0", "1"), picture("7", "4", "5", "7")},
		{strung("3456", "7"), cloth("1001"), picture("3776")},
		{strung("123", "45"), cloth("111", "111"), picture("123", "123")},
		{strung("123", "45"), cloth("000", "000"), picture("444", "555")},
		{strung("123", "45"), cloth("100", "000"), picture("144", "555")},
		{strung("123", "45"), cloth("000", "010"), picture("444", "525")},
		{strung("123", "45"), cloth("001", "000"), picture("443", "555")},
		{strung("123", "45"), cloth("000", "001"), picture("444", "553")},
		{strung("123", "45"), cloth("011", "101"), picture("423", "153")},
		{strung("12", "345"), cloth("10", "01", "11"), picture("13", "42", "12")},
		{strung("121", "31"), cloth("100", "110"), picture("133", "121")},
		{strung("55", "55"), cloth("01", "10"), picture("55", "55")},
		{strung("01", "01"), cloth("01", "10"), picture("01", "01")},
		{strung("01", "10"), cloth("10", "01"), picture("01", "01")},
		{strung("0Z", "Z0"), cloth("11", "00"), picture("0Z", "00")},
		{strung("Z", "0"), cloth("1"), picture("Z")},
	} {
		shows(t, x.s, x.m, x.want)
	}
}

// TestO1OnePlace: threads whose colours are all unlike, in cloths that hold in one place, or everywhere but there.
func TestO1OnePlace(t *testing.T) {
	const wide, high = 7, 5
	s := strung("abcdefg", "01234")
	allEnds := slices.Repeat([]string{"abcdefg"}, high)
	var allPicks []string
	for y := range high {
		allPicks = append(allPicks, strings.Repeat(signs[y:y+1], wide))
	}
	shows(t, s, filled(wide, high, true), picture(allEnds...))
	shows(t, s, filled(wide, high, false), picture(allPicks...))
	for at := range wide * high {
		for _, holds := range []bool{false, true} {
			m := filled(wide, high, !holds)
			m.Bits[at] = holds
			want, colour := picture(allEnds...), at/wide
			if holds {
				want, colour = picture(allPicks...), 10+at%wide
			}
			want.Cells[at] = colour
			shows(t, s, m, want)
		}
	}
}

// TestO1EachColour: of an end alone and of a pick alone.
func TestO1EachColour(t *testing.T) {
	for colour := range 62 {
		for other := range 62 {
			s := api.Strung{Ends: []int{colour}, Picks: []int{other}}
			shows(t, s, cloth("1"), chartOf(1, []int{colour}))
			shows(t, s, cloth("0"), chartOf(1, []int{other}))
		}
	}
}

// TestO1Greatest: MaxSide ends, picks or both: the end lies above where its number and the pick's are together even.
func TestO1Greatest(t *testing.T) {
	for _, sides := range [][2]int{{64, 64}, {64, 1}, {1, 64}, {63, 64}, {64, 63}} {
		wide, high := sides[0], sides[1]
		var s api.Strung
		for x := range wide {
			s.Ends = append(s.Ends, x%62)
		}
		for y := range high {
			s.Picks = append(s.Picks, 61-y%62)
		}
		m := filled(wide, high, false)
		cells := make([]int, wide*high)
		for y := range high {
			for x := range wide {
				cells[y*wide+x] = 61 - y%62
				if (x+y)%2 == 0 {
					m.Bits[y*wide+x] = true
					cells[y*wide+x] = x % 62
				}
			}
		}
		shows(t, s, m, chartOf(wide, cells))
	}
}

// drawnAsked are threads, and a cloth that goes with them: small ones, long ones and great ones.
func drawnAsked(seed int) (api.Strung, api.Truth) {
	next := strew(seed)
	sides := [][2]int{{6, 6}, {64, 3}, {3, 64}, {16, 16}, {64, 64}}[next(5)]
	wide, high := 1+next(sides[0]), 1+next(sides[1])
	return drawnThreads(next, wide, high, 1+next(12)), drawnCloth(next, wide, high, next(9))
}

// TestO1Drawn: the chart's grid, width and height, and each of its cells, held against O1's words.
func TestO1Drawn(t *testing.T) {
	for seed := range 3000 {
		s, m := drawnAsked(seed)
		c, err := effect.Shown(s, m)
		if err != api.OK || c.Grid != api.Square || c.Wide != len(s.Ends) || c.High != len(s.Picks) || len(c.Cells) != c.Wide*c.High {
			t.Fatalf("%s; %s: %s, %d", aboutThreads(s), aboutCloth(m), aboutChart(c), err)
		}
		for x, end := range s.Ends {
			for y, pick := range s.Picks {
				at := y*len(s.Ends) + x
				if above := m.Bits[at]; above && c.Cells[at] != end || !above && c.Cells[at] != pick {
					t.Errorf("%s; %s: in row %d at place %d is %d", aboutThreads(s), aboutCloth(m), y, x, c.Cells[at])
				}
			}
		}
		shows(t, s, m, shownByWords(s, m))
	}
}

// TestO1AllSmall: all cloths of up to four bits, with all threads of three colours.
func TestO1AllSmall(t *testing.T) {
	for _, sides := range [][2]int{{1, 1}, {1, 2}, {2, 1}, {1, 3}, {3, 1}, {2, 2}, {1, 4}, {4, 1}} {
		wide, high := sides[0], sides[1]
		for _, all := range listsOf([]int{0, 1, 61}, wide+high) {
			s := api.Strung{Ends: all[:wide], Picks: all[wide:]}
			for _, bits := range listsOf([]bool{false, true}, wide*high) {
				m := api.Truth{Wide: wide, High: high, Bits: bits}
				shows(t, s, m, shownByWords(s, m))
			}
		}
	}
}

// listsOf are all lists of so many of these.
func listsOf[T any](of []T, many int) [][]T {
	out := [][]T{nil}
	for range many {
		var longer [][]T
		for _, l := range out {
			for _, one := range of {
				longer = append(longer, append(slices.Clone(l), one))
			}
		}
		out = longer
	}
	return out
}
