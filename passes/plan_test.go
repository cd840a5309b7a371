package passes_test

import (
	"slices"
	"testing"

	"tapestry/api"
	"tapestry/passes"
)

// plans: which passes Plan tells, and that Check and S2's words say that they do it.
func plans(t *testing.T, from, to []int, slack int, want ...api.Pass) {
	t.Helper()
	l, err := passes.Plan(from, to, slack)
	if !slices.Equal(l, want) || err != api.OK {
		t.Errorf("%v to %v, slack %d: %v %d, not %v", from, to, slack, l, err, want)
	}
	if is, err := passes.Check(from, to, slack, l); !is || err != api.OK || !checkByWords(from, to, slack, l) {
		t.Errorf("%v to %v, slack %d: %v does not do it: %v %d", from, to, slack, l, is, err)
	}
}

// leastOfAll: no shorter list of passes does it, and of as many none that comes ahead of Plan's.
func leastOfAll(t *testing.T, from, to []int, slack int) {
	t.Helper()
	l, err := passes.Plan(from, to, slack)
	if err != api.OK {
		t.Fatalf("%v to %v, slack %d: %d", from, to, slack, err)
	}
	for count := range len(l) {
		if first, found := firstByWords(from, to, slack, count); found {
			t.Fatalf("%v to %v, slack %d: %v, though %v is shorter", from, to, slack, l, first)
		}
	}
	if first, found := firstByWords(from, to, slack, len(l)); !found || !slices.Equal(l, first) {
		t.Fatalf("%v to %v, slack %d: %v, not %v %v", from, to, slack, l, first, found)
	}
}

// TestS2Example: from needle 0 to 5 are three passes: 1, 2 and 2.
func TestS2Example(t *testing.T) {
	plans(t, []int{0}, []int{5}, 1, api.Pass{By: 1, Which: 1}, api.Pass{By: 2, Which: 1}, api.Pass{By: 2, Which: 1})
}

// TestS2OneLoop: from each needle to each. To the left the long passes come first, to the right the short one: each is the least By.
func TestS2OneLoop(t *testing.T) {
	left, right, shortLeft, shortRight := api.Pass{By: -2, Which: 1}, api.Pass{By: 2, Which: 1}, api.Pass{By: -1, Which: 1}, api.Pass{By: 1, Which: 1}
	for slack := 1; slack <= 11; slack++ {
		for needle := range 12 {
			for far := 0; needle+far < 12; far++ {
				toRight, toLeft := slices.Repeat([]api.Pass{right}, far/2), slices.Repeat([]api.Pass{left}, far/2)
				if far%2 == 1 {
					toRight, toLeft = slices.Insert(toRight, 0, shortRight), append(toLeft, shortLeft)
				}
				plans(t, []int{needle}, []int{needle + far}, slack, toRight...)
				plans(t, []int{needle + far}, []int{needle}, slack, toLeft...)
			}
		}
	}
}

// TestS2Stay: loops that stand where they are to go need no passes, with each slack that lets them stand so.
func TestS2Stay(t *testing.T) {
	for loops := 1; loops <= 5; loops++ {
		for slack := 1; slack <= 11; slack++ {
			for _, at := range ways(loops, 1, slack) {
				plans(t, at, slices.Clone(at), slack)
			}
		}
	}
}

// TestS2Together: all loops in one pass, by each By, and in more.
func TestS2Together(t *testing.T) {
	for loops := 1; loops <= 5; loops++ {
		all := 1<<loops - 1
		at := []int{3, 4, 6, 7, 9}[:loops]
		for _, by := range []int{-2, -1, 1, 2} {
			plans(t, at, movedByWords(at, api.Pass{By: by, Which: all}), 2, api.Pass{By: by, Which: all})
			leastOfAll(t, at, movedByWords(at, api.Pass{By: by, Which: all}), 2)
		}
	}
	plans(t, []int{0, 1, 2, 3, 4}, []int{7, 8, 9, 10, 11}, 1, api.Pass{By: 1, Which: 31}, api.Pass{By: 2, Which: 31}, api.Pass{By: 2, Which: 31}, api.Pass{By: 2, Which: 31})
	plans(t, []int{7, 8, 9, 10, 11}, []int{0, 1, 2, 3, 4}, 1, api.Pass{By: -2, Which: 31}, api.Pass{By: -2, Which: 31}, api.Pass{By: -2, Which: 31}, api.Pass{By: -1, Which: 31})
}

// TestS2OneOfAll: a pass of one loop, at each place.
func TestS2OneOfAll(t *testing.T) {
	at := []int{2, 4, 6, 8, 10}
	for i := range at {
		for _, by := range []int{-1, 1} {
			p := api.Pass{By: by, Which: 1 << i}
			plans(t, at, movedByWords(at, p), 3, p)
			leastOfAll(t, at, movedByWords(at, p), 3)
		}
	}
}

// TestS2ByHand: lists that were found by hand.
func TestS2ByHand(t *testing.T) {
	pass := func(by, which int) api.Pass { return api.Pass{By: by, Which: which} }
	// Both ways: -2, then 1 for both, comes ahead of -1 and 1; not at the left edge.
	plans(t, []int{3, 4}, []int{2, 5}, 3, pass(-2, 1), pass(1, 3))
	plans(t, []int{1, 2}, []int{0, 3}, 3, pass(-1, 1), pass(1, 2))
	// Closer together, and further apart.
	plans(t, []int{0, 3}, []int{1, 2}, 3, pass(-2, 2), pass(1, 3))
	plans(t, []int{3, 5}, []int{4, 4}, 2, pass(-2, 2), pass(1, 3))
	plans(t, []int{3, 4}, []int{3, 6}, 3, pass(2, 2))
	// To one needle: both on one needle first, then both together.
	plans(t, []int{0, 1}, []int{1, 1}, 1, pass(1, 1))
	plans(t, []int{0, 1}, []int{0, 0}, 1, pass(-1, 2))
	plans(t, []int{0, 1}, []int{2, 2}, 1, pass(-1, 2), pass(2, 3))
	plans(t, []int{2, 4, 6, 8, 10}, []int{2, 2, 2, 2, 2}, 3, pass(-2, 16), pass(-2, 24), pass(-2, 28), pass(-2, 30))
	// Further apart by 2 each, slack 2: the last loop begins.
	plans(t, []int{0, 1, 2}, []int{3, 5, 7}, 2, pass(1, 4), pass(1, 6), pass(1, 7), pass(2, 7))
}

// TestS2Longer: where two passes would do, were it not for how loops may stand behind the first one.
func TestS2Longer(t *testing.T) {
	for _, x := range []struct {
		from, to []int
		slack    int
		short    []api.Pass
		want     []api.Pass
	}{
		{[]int{0, 1, 2}, []int{3, 3, 3}, 1, []api.Pass{{By: 1, Which: 5}, {By: 2, Which: 3}}, []api.Pass{{By: -1, Which: 4}, {By: 1, Which: 1}, {By: 2, Which: 7}}},
		{[]int{1, 2, 3}, []int{0, 0, 0}, 1, []api.Pass{{By: -2, Which: 6}, {By: -1, Which: 5}}, []api.Pass{{By: -1, Which: 4}, {By: -1, Which: 6}, {By: -1, Which: 7}}},
		{[]int{0, 1, 2}, []int{1, 3, 5}, 2, []api.Pass{{By: 1, Which: 5}, {By: 2, Which: 6}}, []api.Pass{{By: 1, Which: 4}, {By: 1, Which: 6}, {By: 1, Which: 7}}},
		{[]int{0, 1, 2, 3, 4}, []int{1, 3, 3, 3, 3}, 2, []api.Pass{{By: 2, Which: 7}, {By: -1, Which: 21}}, []api.Pass{{By: -1, Which: 4}, {By: 2, Which: 7}, {By: -1, Which: 17}}},
	} {
		at := x.from
		for _, p := range x.short {
			at = movedByWords(at, p)
		}
		if is, err := passes.Check(x.from, x.to, x.slack, x.short); !slices.Equal(at, x.to) || is || err != api.OK {
			t.Errorf("%v leads to %v, not %v, or does it: %v %d", x.short, at, x.to, is, err)
		}
		plans(t, x.from, x.to, x.slack, x.want...)
		leastOfAll(t, x.from, x.to, x.slack)
	}
}

// strays tells whether a pass moves a loop off the way between where it stood first and where it is to go.
func strays(from, to []int, l []api.Pass) bool {
	at := from
	for _, p := range l {
		at = movedByWords(at, p)
		for i := range at {
			if at[i] < min(from[i], to[i]) || at[i] > max(from[i], to[i]) {
				return true
			}
		}
	}
	return false
}

// TestS2Elsewhere: where the fewest passes, whichever, move a loop elsewhere first.
func TestS2Elsewhere(t *testing.T) {
	for _, x := range []struct {
		from, to []int
		slack    int
		want     []api.Pass
	}{
		{[]int{0, 1, 3}, []int{2, 2, 2}, 2, []api.Pass{{By: -1, Which: 6}, {By: 2, Which: 3}}},
		{[]int{0, 2, 3}, []int{1, 1, 1}, 2, []api.Pass{{By: -2, Which: 6}, {By: 1, Which: 3}}},
		{[]int{0, 1, 4}, []int{1, 3, 3}, 3, []api.Pass{{By: 2, Which: 3}, {By: -1, Which: 5}}},
		{[]int{0, 1, 2, 3}, []int{1, 1, 1, 1}, 2, []api.Pass{{By: 1, Which: 5}, {By: -2, Which: 12}}},
		{[]int{0, 2, 3, 5}, []int{1, 1, 1, 1}, 2, []api.Pass{{By: -2, Which: 8}, {By: -2, Which: 14}, {By: 1, Which: 3}}},
	} {
		plans(t, x.from, x.to, x.slack, x.want...)
		leastOfAll(t, x.from, x.to, x.slack)
		listsByWords(x.from, x.to, x.slack, len(x.want), nil, func(l []api.Pass) bool {
			if !strays(x.from, x.to, l) {
				t.Errorf("%v does it, and moves none elsewhere", l)
			}
			return true
		})
	}
}

// TestS2AgainstAllLists: against every shorter list, and every one of as many passes; where there are not too many of them.
func TestS2AgainstAllLists(t *testing.T) {
	longest := []int{0, 6, 5, 4, 3, 3}
	next := strew(5)
	for loops := 1; loops <= 5; loops++ {
		tried := 0
		for tries := 0; tries < 400; tries++ {
			slack := 1 + next(11)
			froms, tos := ways(loops, 1, slack), ways(loops, 0, slack)
			from := froms[next(len(froms))]
			to := tos[next(len(tos))]
			if tries%2 == 0 { // somewhere near
				near := append([]int{}, from...)
				for i := range near {
					near[i] += next(4) - 2
				}
				to = near
			}
			if wrongByWords(from, to, slack) != api.OK {
				continue
			}
			if l, _ := passes.Plan(from, to, slack); len(l) > longest[loops] {
				continue
			}
			leastOfAll(t, from, to, slack)
			tried++
		}
		if tried < 40 {
			t.Errorf("only %d ways of %d loops", tried, loops)
		}
	}
}

// asPlanned: Plan tells what the words do, from one way to stand to some.
func asPlanned(t *testing.T, from []int, tos [][]int, slack int) {
	t.Helper()
	known := map[int]map[key][]api.Pass{}
	for _, to := range tos {
		if wrongByWords(from, to, slack) != api.OK {
			t.Fatalf("%v to %v, slack %d", from, to, slack)
		}
		if known[sharing(to)] == nil {
			known[sharing(to)] = plansByWords(from, to, slack)
		}
		want, found := known[sharing(to)][keyOf(to)]
		if l, err := passes.Plan(from, to, slack); !slices.Equal(l, want) || err != api.OK || !found {
			t.Fatalf("%v to %v, slack %d: %v %d, not %v %v", from, to, slack, l, err, want, found)
		}
	}
}

// TestS2AllWays: all ways of one loop and two, and of more with little slack.
func TestS2AllWays(t *testing.T) {
	for loops, most := range []int{0, 11, 11, 3, 1, 1} {
		for slack := 1; slack <= most; slack++ {
			tos := ways(loops, 0, slack)
			for _, from := range ways(loops, 1, slack) {
				asPlanned(t, from, tos, slack)
			}
		}
	}
}

// TestS2StrewnWays: of more loops with more slack; to some ways where the same neighbours share needles, since those are planned by the words at once.
func TestS2StrewnWays(t *testing.T) {
	next := strew(8)
	for loops := 3; loops <= 5; loops++ {
		for slack := 2; slack <= 11; slack++ {
			froms, tos := ways(loops, 1, slack), ways(loops, 0, slack)
			for range []int{0, 0, 0, 40, 10, 2}[loops] {
				share := sharing(tos[next(len(tos))])
				alike := slices.DeleteFunc(slices.Clone(tos), func(to []int) bool { return sharing(to) != share })
				var some [][]int
				for range 12 {
					some = append(some, alike[next(len(alike))])
				}
				asPlanned(t, froms[next(len(froms))], some, slack)
			}
		}
	}
}

// TestS2Edges: the left edge, the right edge, and from one to the other; few places and the most slack.
func TestS2Edges(t *testing.T) {
	for loops := 1; loops <= 5; loops++ {
		low, high := []int{0, 1, 2, 3, 4}[:loops], []int{7, 8, 9, 10, 11}[5-loops:]
		first, last := make([]int, loops), slices.Repeat([]int{11}, loops)
		for _, slack := range []int{1, 2, 11} {
			asPlanned(t, low, [][]int{low, high, first, last}, slack)
			asPlanned(t, high, [][]int{low, high, first, last}, slack)
		}
	}
	asPlanned(t, []int{0, 11}, [][]int{{0, 0}, {11, 11}, {5, 6}, {0, 1}, {10, 11}, {0, 11}}, 11)
	asPlanned(t, []int{0, 1}, [][]int{{0, 11}}, 11)
	asPlanned(t, []int{5, 6}, [][]int{{0, 11}}, 11)
	asPlanned(t, []int{0, 1, 2, 3, 11}, [][]int{{0, 8, 9, 10, 11}, {0, 0, 0, 0, 11}, {0, 11, 11, 11, 11}}, 11)
}

// TestS2MoreSlack: it never takes more passes.
func TestS2MoreSlack(t *testing.T) {
	next := strew(21)
	for loops := 2; loops <= 4; loops++ {
		froms, tos := ways(loops, 1, 2), ways(loops, 0, 2)
		for range 60 {
			from, to := froms[next(len(froms))], tos[next(len(tos))]
			fewest := 99
			for slack := 2; slack <= 11; slack++ {
				l, err := passes.Plan(from, to, slack)
				if err != api.OK || len(l) > fewest {
					t.Fatalf("%v to %v, slack %d: %v %d, with less slack %d passes", from, to, slack, l, err, fewest)
				}
				fewest = len(l)
			}
		}
	}
}

// TestS2ErrNone: it is never told. From each way to stand, whichever neighbours may share needles, there is a pass by -1 of the last loops, but from the lowest way; so passes lead from each to the lowest one, and, taken back, from there to each.
func TestS2ErrNone(t *testing.T) {
	for loops := 1; loops <= 5; loops++ {
		for slack := 1; slack <= 11; slack++ {
			for _, lowest := range ways(loops, 0, 1) {
				if lowest[0] != 0 {
					continue
				}
				for _, at := range ways(loops, 0, slack) {
					if standByWords(at, lowest, slack) && !slices.Equal(at, lowest) && !goesDown(at, lowest, slack) {
						t.Fatalf("slack %d, lowest %v: nothing leads down from %v", slack, lowest, at)
					}
				}
			}
		}
	}
}

// goesDown tells whether there is a pass by -1 of the last loops.
func goesDown(at, to []int, slack int) bool {
	for i := range at {
		p := api.Pass{By: -1, Which: 1<<len(at) - 1<<i}
		if standByWords(movedByWords(at, p), to, slack) {
			return true
		}
	}
	return false
}
