package draft_test

import (
	"slices"
	"testing"

	"tapestry/api"
	"tapestry/draft"
)

// What the promises say, in their own words, and drafts and truths to hold them against.

// grid is what truths are to the tests: a list for each row.
type grid [][]bool

// gridOf cuts truths up, whose bits must be as many as their sides say.
func gridOf(t *testing.T, m api.Truth) grid {
	t.Helper()
	if m.Wide < 0 || m.High < 0 || len(m.Bits) != m.Wide*m.High {
		t.Fatalf("%d wide, %d high, with %d bits", m.Wide, m.High, len(m.Bits))
	}
	g := make(grid, m.High)
	for i, b := range m.Bits {
		g[i/m.Wide] = append(g[i/m.Wide], b)
	}
	return g
}

// truthOf are truths whose places a word tells.
func truthOf(wide, high int, word func(row, place int) bool) api.Truth {
	m := api.Truth{Wide: wide, High: high, Bits: make([]bool, wide*high)}
	for i := range m.Bits {
		m.Bits[i] = word(i/wide, i%wide)
	}
	return m
}

// of are truths written down, a text a row.
func of(rows ...string) api.Truth {
	return truthOf(len(rows[0]), len(rows), func(row, place int) bool { return rows[row][place] == '1' })
}

func none(wide, high int) api.Truth {
	return truthOf(wide, high, func(row, place int) bool { return false })
}

func every(wide, high int) api.Truth {
	return truthOf(wide, high, func(row, place int) bool { return true })
}

func same(a, b api.Truth) bool {
	return a.Wide == b.Wide && a.High == b.High && slices.Equal(a.Bits, b.Bits)
}

func sameDraft(a, b api.Draft) bool {
	return slices.Equal(a.Threading, b.Threading) && same(a.Tie, b.Tie) && slices.Equal(a.Treadling, b.Treadling)
}

func isZero(m api.Truth) bool { return m.Wide == 0 && m.High == 0 && len(m.Bits) == 0 }

// drawdownByWords is D2: an end lies above a pick, if its shaft is lifted by the treadle that is trodden, which row t of
// Tie tells of treadle t.
func drawdownByWords(t *testing.T, d api.Draft) api.Truth {
	t.Helper()
	tie := gridOf(t, d.Tie)
	return truthOf(len(d.Threading), len(d.Treadling), func(pick, end int) bool {
		treadle, shaft := d.Treadling[pick], d.Threading[end]
		return tie[treadle][shaft]
	})
}

// numbersByWords is T3 of any lists: that of the first one that is as it; of one that is as none ahead of it, how many of
// these there are ahead of it.
func numbersByWords(lists grid) []int {
	var out []int
	for i, l := range lists {
		first := slices.IndexFunc(lists, func(other []bool) bool { return slices.Equal(l, other) })
		if first < i {
			out = append(out, out[first])
			continue
		}
		ahead := 0
		for j := range i {
			if slices.IndexFunc(lists, func(other []bool) bool { return slices.Equal(lists[j], other) }) == j {
				ahead++
			}
		}
		out = append(out, ahead)
	}
	return out
}

// columnsOf are the columns, a list for each.
func columnsOf(t *testing.T, m api.Truth) grid {
	t.Helper()
	columns := make(grid, m.Wide)
	for _, row := range gridOf(t, m) {
		for x, b := range row {
			columns[x] = append(columns[x], b)
		}
	}
	return columns
}

// howMany unlike numbers there are.
func howMany(numbers []int) int {
	seen := map[int]bool{}
	for _, n := range numbers {
		seen[n] = true
	}
	return len(seen)
}

// allTruths are all truths of these sides.
func allTruths(wide, high int) []api.Truth {
	var out []api.Truth
	for n := range 1 << (wide * high) {
		out = append(out, truthOf(wide, high, func(row, place int) bool { return n>>(row*wide+place)&1 == 1 }))
	}
	return out
}

// allLists are all lists so long of numbers from 0 on below a bound.
func allLists(long, below int) [][]int {
	out := [][]int{nil}
	for range long {
		var next [][]int
		for _, l := range out {
			for n := range below {
				next = append(next, append(slices.Clone(l), n))
			}
		}
		out = next
	}
	return out
}

// allDrafts are all drafts of so many ends, shafts, treadles and picks.
func allDrafts(ends, shafts, treadles, picks int) []api.Draft {
	var out []api.Draft
	for _, tie := range allTruths(shafts, treadles) {
		for _, threading := range allLists(ends, shafts) {
			for _, treadling := range allLists(picks, treadles) {
				out = append(out, api.Draft{Threading: threading, Tie: tie, Treadling: treadling})
			}
		}
	}
	return out
}

// strew makes numbers without order; each seed makes others.
func strew(seed int) func(below int) int {
	s := uint32(seed)*2654435761 + 12345
	return func(below int) int {
		s = s*1664525 + 1013904223
		return int(s>>16) % below
	}
}

// strewn are truths of which one in so many holds.
func strewn(wide, high, oneIn, seed int) api.Truth {
	next := strew(seed)
	return truthOf(wide, high, func(row, place int) bool { return next(oneIn) == 0 })
}

// strewnDraft is a draft of so many ends, shafts, treadles and picks, without order.
func strewnDraft(ends, shafts, treadles, picks, seed int) api.Draft {
	next := strew(seed)
	d := api.Draft{Tie: strewn(shafts, treadles, 2, seed+1000000)}
	for range ends {
		d.Threading = append(d.Threading, next(shafts))
	}
	for range picks {
		d.Treadling = append(d.Treadling, next(treadles))
	}
	return d
}

// smallDrafts are all drafts with few of everything.
func smallDrafts() []api.Draft {
	var out []api.Draft
	for ends := 1; ends <= 3; ends++ {
		for picks := 1; picks <= 3; picks++ {
			for shafts := 1; shafts <= 3; shafts++ {
				for treadles := 1; treadles <= 3; treadles++ {
					if shafts*treadles <= 4 || shafts*treadles <= 6 && ends+picks <= 4 {
						out = append(out, allDrafts(ends, shafts, treadles, picks)...)
					}
				}
			}
		}
	}
	return out
}

// greatDrafts are drafts with up to the most ends, shafts, treadles and picks that there may be.
func greatDrafts() []api.Draft {
	var out []api.Draft
	counts := []int{1, 2, 5, 33, 63, 64}
	for i, ends := range counts {
		for j, shafts := range counts {
			for k, treadles := range counts {
				for l, picks := range counts {
					out = append(out, strewnDraft(ends, shafts, treadles, picks, i*1000+j*100+k*10+l))
				}
			}
		}
	}
	return out
}

// smallTruths are all truths with few bits, those without bits left out.
func smallTruths() []api.Truth {
	var out []api.Truth
	for wide := 1; wide <= 10; wide++ {
		for high := 1; high <= 10; high++ {
			if wide*high <= 10 || wide*high == 12 && wide <= 4 && high <= 4 {
				out = append(out, allTruths(wide, high)...)
			}
		}
	}
	return out
}

// greatTruths are truths with sides up to the greatest: without order, and woven by drafts with few shafts and treadles.
func greatTruths(t *testing.T) []api.Truth {
	var out []api.Truth
	for i, wide := range []int{1, 2, 7, 33, 63, 64} {
		for j, high := range []int{1, 2, 7, 33, 63, 64} {
			out = append(out, none(wide, high), every(wide, high))
			for _, oneIn := range []int{2, 3, 20, 200} {
				out = append(out, strewn(wide, high, oneIn, 1000*oneIn+10*i+j))
			}
			for n := 1; n <= 16; n *= 2 {
				out = append(out, drawdownByWords(t, strewnDraft(wide, n, 17-n, high, 100*n+10*i+j)))
			}
		}
	}
	return out
}

// plainDraft is a draft with which nothing is wrong, of three shafts and two treadles.
func plainDraft() api.Draft {
	return api.Draft{Threading: []int{0, 1, 2, 1, 0}, Tie: of("101", "010"), Treadling: []int{0, 1, 1, 0}}
}

// drawdown, fewest and chain are the answers, where there must be one.
func drawdown(t *testing.T, d api.Draft) api.Truth {
	t.Helper()
	m, err := draft.Drawdown(d)
	if err != api.OK {
		t.Fatalf("the drawdown of %v: %d", d, err)
	}
	return m
}

func fewest(t *testing.T, m api.Truth) api.Draft {
	t.Helper()
	d, err := draft.Fewest(m)
	if err != api.OK {
		t.Fatalf("the fewest for %v: %d", m, err)
	}
	return d
}

func chain(t *testing.T, d api.Draft) (treadling, tie, threading api.Truth) {
	t.Helper()
	treadling, tie, threading, err := draft.Chain(d)
	if err != api.OK {
		t.Fatalf("the chain of %v: %d", d, err)
	}
	return treadling, tie, threading
}
