package cloth_test

import (
	"slices"
	"testing"

	"tapestry/api"
	"tapestry/cloth"
)

// What the promises say, in their own words, and cloths to hold them against.

// truthOf are truths whose places a word tells.
func truthOf(wide, high int, word func(row, place int) bool) api.Truth {
	m := api.Truth{Wide: wide, High: high, Bits: make([]bool, wide*high)}
	for i := range m.Bits {
		m.Bits[i] = word(i/wide, i%wide)
	}
	return m
}

// of is a cloth written down, a text a pick.
func of(rows ...string) api.Truth {
	return truthOf(len(rows[0]), len(rows), func(row, place int) bool { return rows[row][place] == '1' })
}

func none(wide, high int) api.Truth {
	return truthOf(wide, high, func(row, place int) bool { return false })
}

func every(wide, high int) api.Truth {
	return truthOf(wide, high, func(row, place int) bool { return true })
}

func plainWeave(wide, high int) api.Truth {
	return truthOf(wide, high, func(row, place int) bool { return (row+place)%2 == 0 })
}

// strew makes numbers without order; each seed makes others.
func strew(seed int) func(below int) int {
	s := uint32(seed)*2654435761 + 12345
	return func(below int) int {
		s = s*1664525 + 1013904223
		return int(s>>16) % below
	}
}

// strewn is a cloth of which one in so many holds.
func strewn(wide, high, oneIn, seed int) api.Truth {
	next := strew(seed)
	return truthOf(wide, high, func(row, place int) bool { return next(oneIn) == 0 })
}

// layered is a cloth whose strands lie on so many floors, those of a higher one above those of a lower one; on one floor without order.
func layered(wide, high, floors, seed int) api.Truth {
	next := strew(seed)
	floor := make([]int, wide+high)
	for s := range floor {
		floor[s] = next(floors)
	}
	return truthOf(wide, high, func(row, place int) bool {
		end, pick := floor[place], floor[wide+row]
		return end > pick || end == pick && next(2) == 0
	})
}

// longWay is a cloth with the longest way of all: in the row end 0, pick 0, end 1, pick 1 and so on each strand lies above the next one, and
// below all later ones that it crosses.
func longWay(side int) api.Truth {
	return truthOf(side, side, func(row, place int) bool { return place == row || place >= row+2 })
}

// staircase is a cloth in which of end 0, pick 0, end 1, pick 1 and so on each lies above all later ones that it crosses.
func staircase(side int) api.Truth {
	return truthOf(side, side, func(row, place int) bool { return place <= row })
}

// small are all cloths with few bits.
func small() []api.Truth {
	var out []api.Truth
	for wide := 1; wide <= 12; wide++ {
		for high := 1; high <= 12; high++ {
			if wide*high > 9 && (wide*high > 12 || wide+high > 8) {
				continue
			}
			for n := range 1 << (wide * high) {
				out = append(out, truthOf(wide, high, func(row, place int) bool { return n>>(row*wide+place)&1 == 1 }))
			}
		}
	}
	return out
}

// great are cloths with sides up to the greatest.
func great() []api.Truth {
	out := []api.Truth{longWay(64), staircase(64), plainWeave(64, 64), plainWeave(64, 63), plainWeave(63, 64)}
	sides := []int{1, 2, 7, 33, 64}
	for i, wide := range sides {
		for j, high := range sides {
			seed := 10*i + j
			out = append(out, none(wide, high), every(wide, high))
			for _, n := range []int{2, 3, 5, 20} {
				out = append(out, layered(wide, high, n, seed+100*n))
			}
			for _, n := range []int{2, 20, 200} {
				m := strewn(wide, high, n, seed+1000*n)
				out = append(out, m, behind(m))
			}
		}
	}
	return out
}

// behind is a cloth seen from behind: all that lay above lies below.
func behind(m api.Truth) api.Truth {
	return truthOf(m.Wide, m.High, func(row, place int) bool { return !m.Bits[row*m.Wide+place] })
}

// liesAbove is H1: an end lies above a pick where it holds in the pick's row, at the end's place, and below it where it does not.
func liesAbove(m api.Truth, one, other int) bool {
	switch {
	case one < m.Wide && other >= m.Wide:
		return m.Bits[(other-m.Wide)*m.Wide+one]
	case one >= m.Wide && other < m.Wide:
		return !m.Bits[(one-m.Wide)*m.Wide+other]
	}
	return false
}

// overByWords is H1: a strand is over another one, if it is that one, or lies above it, or above one that is over it; nothing else is.
func overByWords(m api.Truth) [][]bool {
	strands := m.Wide + m.High
	below, is := make([][]int, strands), make([][]bool, strands)
	for one := range strands {
		is[one] = make([]bool, strands)
		for other := range strands {
			is[one][other] = one == other
			if liesAbove(m, one, other) {
				is[one][other] = true
				below[one] = append(below[one], other)
			}
		}
	}
	for more := true; more; {
		more = false
		for one := range strands {
			for other := range strands {
				if !is[one][other] && slices.ContainsFunc(below[one], func(low int) bool { return is[low][other] }) {
					is[one][other], more = true, true
				}
			}
		}
	}
	return is
}

// countOver is how many strands are over a strand.
func countOver(is [][]bool, s int) int {
	n := 0
	for one := range is {
		if is[one][s] {
			n++
		}
	}
	return n
}

// liftByWords is H2: with s the first strand over which not all strands are: all strands that are over s, rising.
func liftByWords(is [][]bool) []int {
	for s := range is {
		if countOver(is, s) == len(is) {
			continue
		}
		var out []int
		for one := range is {
			if is[one][s] {
				out = append(out, one)
			}
		}
		return out
	}
	return nil
}

// eachOver tells whether of these strands each is over each of the others.
func eachOver(is [][]bool, strands []int) bool {
	for _, one := range strands {
		for _, other := range strands {
			if !is[one][other] {
				return false
			}
		}
	}
	return true
}

// isSheet is H3: strands each of which is over each of the others, and to which none can be added.
func isSheet(is [][]bool, strands []int) bool {
	if len(strands) == 0 || !eachOver(is, strands) {
		return false
	}
	for one := range is {
		if !slices.Contains(strands, one) && eachOver(is, slices.Concat(strands, []int{one})) {
			return false
		}
	}
	return true
}

// sheetsByWords are all sheets of few strands, found among all sets of these.
func sheetsByWords(is [][]bool) [][]int {
	var out [][]int
	for set := range 1 << len(is) {
		var strands []int
		for s := range is {
			if set>>s&1 == 1 {
				strands = append(strands, s)
			}
		}
		if isSheet(is, strands) {
			out = append(out, strands)
		}
	}
	return out
}

// answersAre holds all answers about a cloth against those that are wanted.
func answersAre(t *testing.T, m api.Truth, lifted []int, layers [][]int) {
	t.Helper()
	liftIs(t, m, lifted)
	if got, err := cloth.Layers(m); err != api.OK || !sameSheets(got, layers) {
		t.Fatalf("%v: layers %v %d, not %v", m, got, err, layers)
	}
}

// liftIs holds Lift's answer, and with it Hangs', against what is wanted.
func liftIs(t *testing.T, m api.Truth, want []int) {
	t.Helper()
	if got, err := cloth.Lift(m); err != api.OK || !slices.Equal(got, want) {
		t.Fatalf("%v: lift %v %d, not %v", m, got, err, want)
	}
	if got, err := cloth.Hangs(m); err != api.OK || got != (len(want) == 0) {
		t.Fatalf("%v: hangs %v %d, where %v comes off", m, got, err, want)
	}
}

func sameSheets(one, other [][]int) bool {
	return slices.EqualFunc(one, other, func(a, b []int) bool { return slices.Equal(a, b) })
}

// lift and layers are the answers, where there must be one.
func lift(t *testing.T, m api.Truth) []int {
	t.Helper()
	l, err := cloth.Lift(m)
	if err != api.OK {
		t.Fatalf("%v: lift %d", m, err)
	}
	return l
}

func layers(t *testing.T, m api.Truth) [][]int {
	t.Helper()
	l, err := cloth.Layers(m)
	if err != api.OK {
		t.Fatalf("%v: layers %d", m, err)
	}
	return l
}

// upTo are the numbers from one on below another one.
func upTo(from, below int) []int {
	var out []int
	for n := from; n < below; n++ {
		out = append(out, n)
	}
	return out
}

// alone are strands that are a sheet each.
func alone(strands []int) [][]int {
	var out [][]int
	for _, s := range strands {
		out = append(out, []int{s})
	}
	return out
}
