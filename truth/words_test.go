package truth

import (
	"slices"
	"testing"

	"tapestry/api"
)

// What the promises say, in their own words, and truths to hold them against.

// holds is T1: what stands in row y at place x.
func holds(m api.Truth, y, x int) bool { return m.Bits[y*m.Wide+x] }

// made are truths of which the word tells each.
func made(wide, high int, word func(y, x int) bool) api.Truth {
	m := api.Truth{Wide: wide, High: high}
	for y := range high {
		for x := range wide {
			m.Bits = append(m.Bits, word(y, x))
		}
	}
	return m
}

func productByWords(a, b api.Truth) api.Truth {
	return made(b.Wide, a.High, func(y, x int) bool {
		for k := range a.Wide {
			if holds(a, y, k) && holds(b, k, x) {
				return true
			}
		}
		return false
	})
}

func turnedByWords(m api.Truth) api.Truth {
	return made(m.High, m.Wide, func(x, y int) bool { return holds(m, y, x) })
}

// asRow tells whether row y is as row z.
func asRow(m api.Truth, y, z int) bool {
	for x := range m.Wide {
		if holds(m, y, x) != holds(m, z, x) {
			return false
		}
	}
	return true
}

// firstAs is the first row that is as row y: y itself, if none ahead of it is.
func firstAs(m api.Truth, y int) int {
	for z := range y {
		if asRow(m, y, z) {
			return z
		}
	}
	return y
}

func alikeByWords(m api.Truth) []int {
	var out []int
	for y := range m.High {
		number := 0
		for z := range firstAs(m, y) {
			if firstAs(m, z) == z {
				number++
			}
		}
		out = append(out, number)
	}
	return out
}

// runByWords is the longest run round a ring of n places: from each of them on, as long as all are so.
func runByWords(n int, so func(i int) bool) int {
	most := 0
	for from := range n {
		for long := 1; long <= n; long++ {
			all := true
			for i := from; i < from+long; i++ {
				all = all && so(i%n)
			}
			if !all {
				break
			}
			most = max(most, long)
		}
	}
	if most == n {
		return 65
	}
	return most
}

func floatsByWords(m api.Truth) (down, along int) {
	for x := range m.Wide {
		down = max(down, runByWords(m.High, func(y int) bool { return holds(m, y, x) }))
	}
	for y := range m.High {
		along = max(along, runByWords(m.Wide, func(x int) bool { return !holds(m, y, x) }))
	}
	return down, along
}

// of are truths written down, a text a row.
func of(rows ...string) api.Truth {
	return made(len(rows[0]), len(rows), func(y, x int) bool { return rows[y][x] == '1' })
}

// all are all truths of these sides.
func all(wide, high int) []api.Truth {
	var out []api.Truth
	for n := range 1 << (wide * high) {
		out = append(out, made(wide, high, func(y, x int) bool { return n>>(y*wide+x)&1 == 1 }))
	}
	return out
}

// none, every and unit are truths of which none holds, of which each one holds, and of which those hold whose row is
// their place.
func none(wide, high int) api.Truth {
	return made(wide, high, func(y, x int) bool { return false })
}

func every(wide, high int) api.Truth {
	return made(wide, high, func(y, x int) bool { return true })
}

func unit(side int) api.Truth { return made(side, side, func(y, x int) bool { return y == x }) }

// strewn are truths of which one in so many holds, without order; each number makes others.
func strewn(wide, high, oneIn, number int) api.Truth {
	s := uint32(number)*2654435761 + 12345
	return made(wide, high, func(y, x int) bool {
		s = s*1664525 + 1013904223
		return int(s>>16)%oneIn == 0
	})
}

// small are all truths with few bits, those without bits too.
func small() []api.Truth {
	var out []api.Truth
	for wide := range 13 {
		for high := range 13 {
			if wide*high <= 10 || wide*high == 12 && wide <= 6 && high <= 6 {
				out = append(out, all(wide, high)...)
			}
		}
	}
	return out
}

// great are truths with sides up to the greatest.
func great() []api.Truth {
	var out []api.Truth
	sides := []int{0, 1, 2, 7, 33, 63, 64}
	for i, wide := range sides {
		for j, high := range sides {
			out = append(out, none(wide, high), every(wide, high))
			for _, oneIn := range []int{2, 3, 20, 200} {
				m := strewn(wide, high, oneIn, 100*oneIn+10*i+j)
				out = append(out, m, made(wide, high, func(y, x int) bool { return !holds(m, y, x) }))
			}
		}
	}
	return out
}

// same tells whether two truths are one.
func same(a, b api.Truth) bool {
	return a.Wide == b.Wide && a.High == b.High && slices.Equal(a.Bits, b.Bits)
}

// product and turned are the answers, where there must be one.
func product(t *testing.T, a, b api.Truth) api.Truth {
	t.Helper()
	m, err := Product(a, b)
	if err != api.OK {
		t.Errorf("the product of %v and %v: %d", a, b, err)
	}
	return m
}

func turned(t *testing.T, m api.Truth) api.Truth {
	t.Helper()
	out, err := Turned(m)
	if err != api.OK {
		t.Errorf("%v turned: %d", m, err)
	}
	return out
}
