package passes_test

import (
	"slices"
	"testing"

	"tapestry/api"
	"tapestry/passes"
)

// checks: what Check tells.
func checks(t *testing.T, from, to []int, slack int, want bool, l ...api.Pass) {
	t.Helper()
	if is, err := passes.Check(from, to, slack, l); is != want || err != api.OK {
		t.Errorf("%v to %v, slack %d, %d passes %v: %v %d, not %v", from, to, slack, len(l), l[:min(9, len(l))], is, err, want)
	}
}

// asChecked: Check tells what S2's words do.
func asChecked(t *testing.T, from, to []int, slack int, l []api.Pass) {
	t.Helper()
	checks(t, from, to, slack, checkByWords(from, to, slack, l), l...)
}

// TestS2CheckNone: no passes, nil and empty, do it only where all stand there.
func TestS2CheckNone(t *testing.T) {
	for loops := 1; loops <= 3; loops++ {
		all := ways(loops, 1, 11)
		for i, from := range all {
			for _, to := range [][]int{from, all[(i+1)%len(all)], all[len(all)-1-i]} {
				for _, l := range [][]api.Pass{nil, {}, make([]api.Pass, 0, 4)} {
					checks(t, from, to, 11, slices.Equal(from, to), l...)
				}
			}
		}
	}
	checks(t, []int{4, 5}, []int{5, 5}, 1, false)
	checks(t, []int{0, 1, 2, 3, 4}, []int{0, 1, 2, 3, 5}, 2, false)
}

// TestS2CheckOthers: lists that are longer than need be, or come behind others, do it too.
func TestS2CheckOthers(t *testing.T) {
	checks(t, []int{0}, []int{5}, 1, true, api.Pass{By: 2, Which: 1}, api.Pass{By: 2, Which: 1}, api.Pass{By: 1, Which: 1})
	checks(t, []int{0}, []int{5}, 1, true, slices.Repeat([]api.Pass{{By: 1, Which: 1}}, 5)...)
	checks(t, []int{0}, []int{5}, 1, false, slices.Repeat([]api.Pass{{By: 1, Which: 1}}, 4)...)
	checks(t, []int{0}, []int{5}, 1, false, slices.Repeat([]api.Pass{{By: 1, Which: 1}}, 6)...)
	checks(t, []int{3}, []int{3}, 1, true, api.Pass{By: -2, Which: 1}, api.Pass{By: 2, Which: 1})
	checks(t, []int{3}, []int{3}, 1, false, api.Pass{By: -2, Which: 1}, api.Pass{By: 1, Which: 1})
	checks(t, []int{3, 4}, []int{2, 5}, 3, true, api.Pass{By: -1, Which: 1}, api.Pass{By: 1, Which: 2})
	checks(t, []int{3, 4}, []int{2, 5}, 3, true, api.Pass{By: 1, Which: 2}, api.Pass{By: -1, Which: 1})
	checks(t, []int{3, 4}, []int{2, 5}, 3, false, api.Pass{By: 1, Which: 1}, api.Pass{By: -1, Which: 2})
	// Loops that share a needle may part again.
	checks(t, []int{3, 4}, []int{5, 5}, 1, true, api.Pass{By: 1, Which: 1}, api.Pass{By: 1, Which: 2}, api.Pass{By: 1, Which: 1})
	checks(t, []int{3, 4}, []int{5, 5}, 1, true, api.Pass{By: 1, Which: 1}, api.Pass{By: 1, Which: 3})
}

// TestS2CheckOneNeedle: behind a pass two may stand on one needle that are to go to the same one, and no others, though later passes would part them.
func TestS2CheckOneNeedle(t *testing.T) {
	checks(t, []int{0, 1}, []int{1, 2}, 1, false, api.Pass{By: 1, Which: 1}, api.Pass{By: 1, Which: 2})
	checks(t, []int{0, 1}, []int{1, 2}, 2, true, api.Pass{By: 1, Which: 2}, api.Pass{By: 1, Which: 1})
	checks(t, []int{0, 1}, []int{2, 2}, 1, true, api.Pass{By: 1, Which: 1}, api.Pass{By: 1, Which: 3})
	for pair := 1; pair < 5; pair++ {
		from, to := []int{0, 2, 4, 6, 8}, []int{1, 3, 5, 7, 9}
		together := api.Pass{By: 2, Which: 1 << (pair - 1)}
		l := []api.Pass{together, {By: 1, Which: 31}, {By: -2, Which: together.Which}}
		checks(t, from, to, 4, false, l...)
		checks(t, from, to, 4, true, l[1])
		to[pair-1] = to[pair]
		checks(t, from, to, 4, true, l[0], l[1])
		checks(t, from, to, 4, true, l[1], l[0])
	}
}

// TestS2CheckBetween: behind each pass loops must stand so, though later ones bring all to where they are to go: off the needles, too far apart, and to the left of the one ahead.
func TestS2CheckBetween(t *testing.T) {
	there := func(by, which int) []api.Pass { return []api.Pass{{By: by, Which: which}, {By: -by, Which: which}} }
	for _, x := range []struct {
		at    []int
		slack int
		by    int
		which int
		want  bool
	}{
		{[]int{1}, 1, -1, 1, true}, {[]int{0}, 1, -1, 1, false}, {[]int{1}, 1, -2, 1, false}, {[]int{2}, 1, -2, 1, true},
		{[]int{10}, 1, 1, 1, true}, {[]int{11}, 1, 1, 1, false}, {[]int{10}, 1, 2, 1, false}, {[]int{9}, 1, 2, 1, true},
		{[]int{3, 4}, 2, 1, 2, true}, {[]int{3, 4}, 1, 1, 2, false}, {[]int{3, 4}, 2, -1, 1, true}, {[]int{3, 4}, 1, -1, 1, false},
		{[]int{3, 4}, 3, 2, 2, true}, {[]int{3, 4}, 2, 2, 2, false}, {[]int{3, 4}, 3, -2, 1, true}, {[]int{3, 4}, 2, -2, 1, false},
		{[]int{3, 4}, 11, 2, 1, false}, {[]int{3, 4}, 11, -2, 2, false}, {[]int{3, 4}, 11, 1, 1, false}, {[]int{3, 4}, 11, -1, 2, false},
		{[]int{3, 6}, 3, 2, 1, true}, {[]int{3, 6}, 3, -2, 2, true},
		{[]int{0, 1, 2, 3, 4}, 1, 2, 31, true}, {[]int{0, 1, 2, 3, 4}, 1, -1, 31, false}, {[]int{0, 1, 2, 3, 4}, 1, 1, 30, false}, {[]int{0, 1, 2, 3, 4}, 2, 1, 30, true},
		{[]int{7, 8, 9, 10, 11}, 1, -2, 31, true}, {[]int{7, 8, 9, 10, 11}, 11, 1, 16, false}, {[]int{7, 8, 9, 10, 11}, 2, -1, 15, true},
	} {
		checks(t, x.at, x.at, x.slack, x.want, there(x.by, x.which)...)
		checks(t, x.at, x.at, x.slack, x.want, slices.Repeat(there(x.by, x.which), 3)...)
	}
}

// TestS2CheckNoPass: a By of 0 and beyond MaxBy, a Which of 0, below 0, and with marks of loops that there are none of; alone, ahead of what does it, in its midst and behind it.
func TestS2CheckNoPass(t *testing.T) {
	for loops := 1; loops <= 5; loops++ {
		all := 1<<loops - 1
		from := []int{3, 4, 5, 6, 7}[:loops]
		to := movedByWords(movedByWords(from, api.Pass{By: 2, Which: all}), api.Pass{By: 1, Which: all})
		good := []api.Pass{{By: 2, Which: all}, {By: 1, Which: all}}
		none := []api.Pass{{}, {By: 0, Which: all}, {By: 3, Which: all}, {By: -3, Which: all}, {By: 1, Which: 0}, {By: -2, Which: 0}, {By: 1, Which: -1}, {By: 1, Which: -all - 1},
			{By: 1, Which: all + 1}, {By: 1, Which: all + 2}, {By: 1, Which: 2*all + 1}, {By: 1, Which: 64}, {By: 1, Which: 1<<32 + 1}, {By: -1, Which: 1 << 62}}
		for _, odd := range oddNumbers() {
			if odd != -1 {
				none = append(none, api.Pass{By: odd, Which: all}, api.Pass{By: odd, Which: 1})
			}
			if odd < 1 || odd > all {
				none = append(none, api.Pass{By: 1, Which: odd}, api.Pass{By: -2, Which: odd})
			}
			none = append(none, api.Pass{By: odd, Which: odd | 1<<loops})
		}
		checks(t, from, to, 1, true, good...)
		for _, p := range none {
			checks(t, from, to, 1, false, p)
			checks(t, from, from, 1, false, p)
			for at := range 3 {
				checks(t, from, to, 1, false, slices.Insert(slices.Clone(good), at, p)...)
			}
		}
		checks(t, from, movedByWords(from, api.Pass{By: 3, Which: all}), 1, false, api.Pass{By: 3, Which: all})
		checks(t, from, movedByWords(from, api.Pass{By: -3, Which: all}), 1, false, api.Pass{By: -3, Which: all})
		checks(t, from, movedByWords(from, api.Pass{By: 1, Which: all}), 1, false, api.Pass{By: 1, Which: all + 1 + all})
	}
}

// TestS2CheckOddPasses: numbers that, added up, would wrap round to where loops are to go.
func TestS2CheckOddPasses(t *testing.T) {
	odd := append(oddNumbers(), 0, 1, 2, 3)
	for _, by := range odd {
		for _, which := range odd {
			for _, other := range odd {
				asChecked(t, []int{3, 5}, []int{3, 5}, 4, []api.Pass{{By: by, Which: which}, {By: -by, Which: which}, {By: other, Which: which}, {By: -other, Which: which}})
			}
		}
	}
}

// TestS2CheckAllLists: all lists of up to two passes, and what is none among them.
func TestS2CheckAllLists(t *testing.T) {
	for _, x := range []struct {
		from, to []int
		slack    int
	}{
		{[]int{1}, []int{3}, 1}, {[]int{1}, []int{1}, 11}, {[]int{10}, []int{8}, 1}, {[]int{11}, []int{9}, 1},
		{[]int{3, 4}, []int{2, 5}, 3}, {[]int{0, 1}, []int{2, 2}, 1}, {[]int{0, 3}, []int{1, 2}, 3}, {[]int{9, 11}, []int{8, 9}, 2}, {[]int{5, 6}, []int{5, 6}, 2},
		{[]int{0, 1, 3}, []int{2, 2, 2}, 2}, {[]int{4, 5, 6}, []int{5, 6, 7}, 1}, {[]int{0, 2, 4}, []int{2, 3, 3}, 2}, {[]int{8, 9, 11}, []int{8, 9, 11}, 3},
	} {
		asChecked(t, x.from, x.to, x.slack, nil)
		done := 0
		for which := -1; which <= 1<<len(x.from)+1; which++ {
			for by := -3; by <= 3; by++ {
				first := api.Pass{By: by, Which: which}
				asChecked(t, x.from, x.to, x.slack, []api.Pass{first})
				for second := -1; second <= 1<<len(x.from)+1; second++ {
					for _, far := range []int{-3, -2, -1, 0, 1, 2, 3} {
						l := []api.Pass{first, {By: far, Which: second}}
						asChecked(t, x.from, x.to, x.slack, l)
						if checkByWords(x.from, x.to, x.slack, l) {
							done++
						}
					}
				}
			}
		}
		if done == 0 {
			t.Errorf("no two passes from %v to %v", x.from, x.to)
		}
	}
}

// strewnPasses are passes without order that may be done one behind the other, and how loops stand behind them.
func strewnPasses(from, to []int, slack, count int, next func(int) int) ([]api.Pass, []int) {
	all := passesByWords(len(from))
	var l []api.Pass
	for range 20 * count {
		p := all[next(len(all))]
		if behind := movedByWords(from, p); len(l) < count && standByWords(behind, to, slack) {
			l, from = append(l, p), behind
		}
	}
	return l, from
}

// back takes passes back.
func back(l []api.Pass) []api.Pass {
	var out []api.Pass
	for _, p := range slices.Backward(l) {
		out = append(out, api.Pass{By: -p.By, Which: p.Which})
	}
	return out
}

// TestS2CheckStrewn: there and back, then as planned, does it; with one pass less, more or otherwise as the words say.
func TestS2CheckStrewn(t *testing.T) {
	next := strew(13)
	for loops := 1; loops <= 5; loops++ {
		for range 150 {
			slack := 1 + next(11)
			froms, tos := ways(loops, 1, slack), ways(loops, 0, slack)
			from, to := froms[next(len(froms))], tos[next(len(tos))]
			there, _ := strewnPasses(from, to, slack, 1+next(12), next)
			plan, _ := passes.Plan(from, to, slack)
			whole := slices.Concat(there, back(there), plan)
			checks(t, from, to, slack, true, whole...)
			checks(t, from, to, slack, slices.Equal(from, to), slices.Concat(there, back(there))...)
			asChecked(t, from, to, slack, there)
			for i := range whole {
				asChecked(t, from, to, slack, slices.Delete(slices.Clone(whole), i, i+1))
				asChecked(t, from, to, slack, slices.Insert(slices.Clone(whole), i, whole[next(len(whole))]))
				other := slices.Clone(whole)
				other[i] = api.Pass{By: next(7) - 3, Which: next(1<<loops + 1)}
				asChecked(t, from, to, slack, other)
			}
		}
	}
}

// TestS2CheckLong: long lists, to and fro, and what is wrong only in their midst or at their end.
func TestS2CheckLong(t *testing.T) {
	for loops := 1; loops <= 5; loops++ {
		all := 1<<loops - 1
		from := []int{3, 4, 5, 6, 7}[:loops]
		long := slices.Repeat([]api.Pass{{By: 2, Which: all}, {By: -1, Which: all}, {By: -1, Which: all}}, 100000)
		checks(t, from, from, 1, true, long...)
		checks(t, from, from, 1, false, long[1:]...)
		checks(t, from, from, 1, false, long[:len(long)-1]...)
		checks(t, from, movedByWords(from, api.Pass{By: 1, Which: all}), 1, true, long[:len(long)-1]...)
		for _, at := range []int{0, 150000, len(long) - 1} {
			for _, p := range []api.Pass{{By: 0, Which: all}, {By: 3, Which: all}, {By: 1, Which: all + 1}, {By: 1, Which: 0}} {
				kept := long[at]
				long[at] = p
				checks(t, from, from, 1, false, long...)
				long[at] = kept
			}
		}
		checks(t, from, from, 1, false, slices.Repeat([]api.Pass{{By: 2, Which: all}}, 300000)...)
		checks(t, from, from, 1, false, slices.Repeat([]api.Pass{{By: -2, Which: all}}, 300000)...)
	}
}
