package cloth_test

import (
	"slices"
	"testing"

	"tapestry/api"
)

// known are cloths with what must be told of them.
func known() []struct {
	name   string
	m      api.Truth
	lifted []int
	layers [][]int
} {
	return []struct {
		name   string
		m      api.Truth
		lifted []int
		layers [][]int
	}{
		{"plain weave", of("10", "01"), nil, [][]int{{0, 1, 2, 3}}},
		{"plain weave, the other way", of("01", "10"), nil, [][]int{{0, 1, 2, 3}}},
		{"a twill", of("1100", "0110", "0011", "1001"), nil, [][]int{{0, 1, 2, 3, 4, 5, 6, 7}}},
		{"a satin", of("10000", "00100", "00001", "01000", "00010"), nil, [][]int{{0, 1, 2, 3, 4, 5, 6, 7, 8, 9}}},
		{"all ends above all picks", of("11", "11"), []int{0}, [][]int{{0}, {1}, {2}, {3}}},
		{"all picks above all ends", of("00", "00"), []int{0, 2, 3}, [][]int{{2}, {3}, {0}, {1}}},
		{"one end above one pick", of("1"), []int{0}, [][]int{{0}, {1}}},
		{"one pick above one end", of("0"), []int{1}, [][]int{{1}, {0}}},
		{"one row, the first end above", of("101"), []int{0}, [][]int{{0}, {2}, {3}, {1}}},
		{"one row, the first end below", of("011"), []int{1}, [][]int{{1}, {2}, {3}, {0}}},
		{"one row, the last end above", of("0001"), []int{0, 3, 4}, [][]int{{3}, {4}, {0}, {1}, {2}}},
		{"one row, all ends above", of("1111"), []int{0}, [][]int{{0}, {1}, {2}, {3}, {4}}},
		{"one row, all ends below", of("00000"), []int{0, 5}, [][]int{{5}, {0}, {1}, {2}, {3}, {4}}},
		{"one column, the middle pick above", of("1", "0", "1"), []int{0, 2}, [][]int{{2}, {0}, {1}, {3}}},
		{"one column, the first pick above", of("0", "1"), []int{0, 1}, [][]int{{1}, {0}, {2}}},
		{"one column, all picks above", of("0", "0"), []int{1}, [][]int{{1}, {2}, {0}}},
		{"one column, all picks below", of("1", "1", "1"), []int{0}, [][]int{{0}, {1}, {2}, {3}}},
		{"a pick above all", of("10", "01", "00"), []int{4}, [][]int{{4}, {0, 1, 2, 3}}},
		{"two picks above all", of("10", "01", "00", "00"), []int{4}, [][]int{{4}, {5}, {0, 1, 2, 3}}},
		{"a pick below all", of("10", "01", "11"), []int{0, 1, 2, 3}, [][]int{{0, 1, 2, 3}, {4}}},
		{"an end above all", of("101", "011"), []int{2}, [][]int{{2}, {0, 1, 3, 4}}},
		{"an end below all", of("100", "010"), []int{0, 1, 3, 4}, [][]int{{0, 1, 3, 4}, {2}}},
		{"two ends below all, the first of all strands", of("0010", "0001"), []int{0, 2, 3, 4, 5}, [][]int{{2, 3, 4, 5}, {0}, {1}}},
		{"two cloths, the first ends' above", of("1000", "1110", "0010", "1011"), []int{0, 2, 4, 6}, [][]int{{0, 2, 4, 6}, {1, 3, 5, 7}}},
		{"two cloths, the first ends' below", of("1101", "0100", "0111", "0001"), []int{1, 3, 5, 7}, [][]int{{1, 3, 5, 7}, {0, 2, 4, 6}}},
		{"a staircase", of("111", "110", "100"), []int{0}, [][]int{{0}, {5}, {1}, {4}, {2}, {3}}},
		{"a staircase, the last end highest", of("111", "011", "001"), []int{0, 1, 2, 4, 5}, [][]int{{2}, {5}, {1}, {4}, {0}, {3}}},
		{"picks between ends", of("10", "10"), []int{0}, [][]int{{0}, {2}, {3}, {1}}},
		{"ends between picks", of("00", "11"), []int{0, 2}, [][]int{{2}, {0}, {1}, {3}}},
	}
}

func TestH1ToH3Known(t *testing.T) {
	for _, x := range known() {
		t.Run(x.name, func(t *testing.T) { answersAre(t, x.m, x.lifted, x.layers) })
	}
}

// TestH2ByTheWords: all small cloths, and great ones.
func TestH2ByTheWords(t *testing.T) {
	for _, m := range slices.Concat(small(), great()) {
		liftIs(t, m, liftByWords(overByWords(m)))
	}
}

// TestH2WhatIsLifted: among the cloths that are held against the words Lift tells ends alone, picks alone, both, and none.
func TestH2WhatIsLifted(t *testing.T) {
	for _, cloths := range [][]api.Truth{small(), great()} {
		ends, picks, both, nothing := 0, 0, 0, 0
		for _, m := range cloths {
			l := lift(t, m)
			switch {
			case len(l) == 0:
				nothing++
			case l[len(l)-1] < m.Wide:
				ends++
			case l[0] >= m.Wide:
				picks++
			default:
				both++
			}
		}
		if ends < 5 || picks < 5 || both < 5 || nothing < 5 {
			t.Errorf("%d with ends alone, %d with picks alone, %d with both, %d with none", ends, picks, both, nothing)
		}
	}
}

// comesOff tells whether strands can be lifted off: none of the others lies above one of them.
func comesOff(m api.Truth, isLifted func(strand int) bool) bool {
	for one := range m.Wide + m.High {
		for other := range m.Wide + m.High {
			if isLifted(one) && !isLifted(other) && liesAbove(m, other, one) {
				return false
			}
		}
	}
	return true
}

// TestH2LiftedComesOff: what Lift tells is not all of the cloth, and nothing else lies above it.
func TestH2LiftedComesOff(t *testing.T) {
	for _, m := range slices.Concat(small(), great()) {
		l := lift(t, m)
		if len(l) == m.Wide+m.High || !comesOff(m, func(s int) bool { return slices.Contains(l, s) }) {
			t.Fatalf("%v: %v does not come off", m, l)
		}
	}
}

// TestH2HangsTogether: a cloth hangs together, if of all sets of its strands none comes off but none and all of them.
func TestH2HangsTogether(t *testing.T) {
	for _, m := range small() {
		hangs := true
		for set := 1; hangs && set < 1<<(m.Wide+m.High)-1; set++ {
			hangs = !comesOff(m, func(s int) bool { return set>>s&1 == 1 })
		}
		if l := lift(t, m); hangs != (len(l) == 0) {
			t.Fatalf("%v: %v is told, and that it hangs together is %v", m, l, hangs)
		}
	}
}

// TestH2NeedsTwoEach: a cloth of one end or of one pick never hangs together; plain weave of more always does.
func TestH2NeedsTwoEach(t *testing.T) {
	for n := 1; n <= 64; n++ {
		for _, m := range []api.Truth{plainWeave(1, n), plainWeave(n, 1), strewn(1, n, 2, n), strewn(n, 1, 2, n), none(n, 1), every(1, n)} {
			if len(lift(t, m)) == 0 {
				t.Errorf("%v hangs together", m)
			}
		}
		for _, other := range []int{2, 3, 10} {
			if n > 1 {
				liftIs(t, plainWeave(n, other), nil)
				liftIs(t, plainWeave(other, n), nil)
			}
		}
	}
}

// TestH2Greatest: MaxTruth by MaxTruth.
func TestH2Greatest(t *testing.T) {
	all := upTo(0, 128)
	answersAre(t, plainWeave(64, 64), nil, [][]int{all})
	answersAre(t, longWay(64), nil, [][]int{all})
	answersAre(t, every(64, 64), []int{0}, alone(all))
	answersAre(t, none(64, 64), slices.Concat([]int{0}, upTo(64, 128)), alone(slices.Concat(upTo(64, 128), upTo(0, 64))))
	var stairs []int
	for n := range 64 {
		stairs = append(stairs, n, 64+n)
	}
	answersAre(t, staircase(64), []int{0}, alone(stairs))
	slices.Reverse(stairs)
	answersAre(t, behind(staircase(64)), slices.Concat(upTo(1, 64), upTo(65, 128)), alone(stairs)) // end 0 lies below all, end 1 above pick 0 alone
}

// TestH2OneStrandOff: in plain weave of MaxTruth by MaxTruth, each end and each pick laid above all that it crosses, and below.
func TestH2OneStrandOff(t *testing.T) {
	all := upTo(0, 128)
	for n := range 64 {
		for _, above := range []bool{false, true} {
			end := truthOf(64, 64, func(row, place int) bool { return place == n && above || place != n && (row+place)%2 == 0 })
			pick := truthOf(64, 64, func(row, place int) bool { return row == n && !above || row != n && (row+place)%2 == 0 })
			oneOff(t, end, n, above, slices.Delete(slices.Clone(all), n, n+1))
			oneOff(t, pick, 64+n, above, slices.Delete(slices.Clone(all), 64+n, 64+n+1))
		}
	}
}

// oneOff: one strand lies above all others, or below, which hang together.
func oneOff(t *testing.T, m api.Truth, s int, above bool, others []int) {
	t.Helper()
	if above {
		answersAre(t, m, []int{s}, [][]int{{s}, others})
	} else {
		answersAre(t, m, others, [][]int{others, {s}})
	}
}

// TestH2LongWay: a way over as many strands as there are is found, and missed where one of its steps, wherever it is, is turned round.
func TestH2LongWay(t *testing.T) {
	for side := 2; side <= 64; side++ {
		liftIs(t, longWay(side), nil)
	}
	for step := range 127 {
		m := longWay(64)
		at := (step/2)*64 + step/2 // end step/2 above its pick
		if step%2 == 1 {
			at++ // that pick above the next end
		}
		m.Bits[at] = !m.Bits[at]
		is := overByWords(m)
		liftIs(t, m, liftByWords(is))
		areLayers(t, m, is, layers(t, m))
		if len(lift(t, m)) == 0 {
			t.Errorf("without step %d it hangs together", step)
		}
	}
}
