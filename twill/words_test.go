package twill_test

import (
	"slices"
	"testing"

	"tapestry/api"
	"tapestry/twill"
)

// What the promises say, in their own words, and runs and truths to hold them against.

// truthOf are truths whose places a word tells.
func truthOf(wide, high int, word func(row, place int) bool) api.Truth {
	m := api.Truth{Wide: wide, High: high, Bits: make([]bool, wide*high)}
	for i := range m.Bits {
		m.Bits[i] = word(i/wide, i%wide)
	}
	return m
}

// of are truths written down, a text a row.
func of(rows ...string) api.Truth {
	return truthOf(len(rows[0]), len(rows), func(row, place int) bool { return rows[row][place] == '1' })
}

func none(wide, high int) api.Truth {
	return truthOf(wide, high, func(row, place int) bool { return false })
}

func every(wide, high int) api.Truth {
	return truthOf(wide, high, func(row, place int) bool { return true })
}

func same(a, b api.Truth) bool {
	return a.Wide == b.Wide && a.High == b.High && slices.Equal(a.Bits, b.Bits)
}

func isZero(m api.Truth) bool { return m.Wide == 0 && m.High == 0 && len(m.Bits) == 0 }

// together is how much runs are.
func together(runs []int) int {
	n := 0
	for _, run := range runs {
		n += run
	}
	return n
}

// isTwill is W1: n wide and n high; row 0 holds in the first run, not in the second one, and so on; each other row is the
// one ahead of it, move places further to the right, going round.
func isTwill(t *testing.T, m api.Truth, runs []int, move int) {
	t.Helper()
	n := together(runs)
	if m.Wide != n || m.High != n || len(m.Bits) != n*n {
		t.Fatalf("%v by %d: %d wide, %d high, with %d bits, not %d wide and high", runs, move, m.Wide, m.High, len(m.Bits), n)
	}
	at := 0
	for i, run := range runs {
		for range run {
			if m.Bits[at] != (i%2 == 0) {
				t.Fatalf("%v by %d: row 0 at place %d, in run %d: %v", runs, move, at, i, m.Bits[at])
			}
			at++
		}
	}
	for row := 1; row < n; row++ {
		for place := range n {
			right := place + move
			if right >= n {
				right -= n
			}
			if m.Bits[row*n+right] != m.Bits[(row-1)*n+place] {
				t.Fatalf("%v by %d: row %d at place %d is not what the row ahead has at %d", runs, move, row, right, place)
			}
		}
	}
}

// movesByWords is W2: all numbers from 2 to ends - 2 that have no divisor with ends but 1, rising.
func movesByWords(ends int) []int {
	var out []int
	for move := 2; move <= ends-2; move++ {
		common := 0
		for d := 2; d <= ends; d++ {
			if ends%d == 0 && move%d == 0 {
				common++
			}
		}
		if common == 0 {
			out = append(out, move)
		}
	}
	return out
}

// evenByWords is W3: any two rows have as many that hold, and any two columns do.
func evenByWords(m api.Truth) bool {
	return anyTwo(m.High, func(row int) int { return count(m, func(y, x int) bool { return y == row }) }) &&
		anyTwo(m.Wide, func(column int) int { return count(m, func(y, x int) bool { return x == column }) })
}

// count is how many hold among the places that are meant.
func count(m api.Truth, meant func(row, place int) bool) int {
	n := 0
	for y := range m.High {
		for x := range m.Wide {
			if meant(y, x) && m.Bits[y*m.Wide+x] {
				n++
			}
		}
	}
	return n
}

// anyTwo tells whether any two of so many have as many.
func anyTwo(lines int, many func(line int) int) bool {
	for one := range lines {
		for other := range one {
			if many(one) != many(other) {
				return false
			}
		}
	}
	return true
}

// allRuns are all lists of so many runs that are together n.
func allRuns(count, n int) [][]int {
	if count == 1 {
		return [][]int{{n}}
	}
	var out [][]int
	for run := 1; run <= n-count+1; run++ {
		for _, rest := range allRuns(count-1, n-run) {
			out = append(out, slices.Concat([]int{run}, rest))
		}
	}
	return out
}

// strew makes numbers without order; each seed makes others.
func strew(seed int) func(below int) int {
	s := uint32(seed)*2654435761 + 12345
	return func(below int) int {
		s = s*1664525 + 1013904223
		return int(s>>16) % below
	}
}

// strewnRuns are so many runs without order that are together n.
func strewnRuns(count, n, seed int) []int {
	next := strew(seed)
	out := slices.Repeat([]int{1}, count)
	for range n - count {
		out[next(count)]++
	}
	return out
}

// strewn are truths of which one in so many holds.
func strewn(wide, high, oneIn, seed int) api.Truth {
	next := strew(seed)
	return truthOf(wide, high, func(row, place int) bool { return next(oneIn) == 0 })
}

// made, satin and moves are the answers, where there must be one.
func made(t *testing.T, runs []int, move int) api.Truth {
	t.Helper()
	m, err := twill.Twill(runs, move)
	if err != api.OK {
		t.Fatalf("the twill of %v by %d: %d", runs, move, err)
	}
	return m
}

func satin(t *testing.T, ends, move int) api.Truth {
	t.Helper()
	m, err := twill.Satin(ends, move)
	if err != api.OK {
		t.Fatalf("the satin of %d ends by %d: %d", ends, move, err)
	}
	return m
}

func moves(t *testing.T, ends int) []int {
	t.Helper()
	l, err := twill.Moves(ends)
	if err != api.OK {
		t.Fatalf("the moves of %d ends: %d", ends, err)
	}
	return l
}

// evenIs holds the answer against the one that is wanted.
func evenIs(t *testing.T, m api.Truth, want bool) {
	t.Helper()
	if got, err := twill.Even(m); got != want || err != api.OK {
		t.Fatalf("%v: even %v %d, not %v", m, got, err, want)
	}
}
