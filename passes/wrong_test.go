package passes_test

import (
	"slices"
	"testing"

	"tapestry/api"
	"tapestry/passes"
)

// wrong: what Wrong, Plan and Check say alike; beside an error nothing is told.
func wrong(t *testing.T, from, to []int, slack int, want api.Errno) {
	t.Helper()
	if err := passes.Wrong(from, to, slack); err != want {
		t.Errorf("Wrong of %v to %v, slack %d: %d, not %d", from, to, slack, err, want)
	}
	if l, err := passes.Plan(from, to, slack); err != want || want != api.OK && len(l) > 0 {
		t.Errorf("Plan of %v to %v, slack %d: %v %d, not %d", from, to, slack, l, err, want)
	}
	for _, l := range [][]api.Pass{nil, {}, {{By: 1, Which: 1}}, {{By: 3, Which: 1}}, {{By: 1, Which: 64}, {}}} {
		if is, err := passes.Check(from, to, slack, l); err != want || want != api.OK && is {
			t.Errorf("Check of %v to %v, slack %d, %v: %v %d, not %d", from, to, slack, l, is, err, want)
		}
	}
}

// wrongAsTold: Wrong is what S1's words say, and where something is wrong, Plan and Check say the same.
func wrongAsTold(t *testing.T, from, to []int, slack int) {
	t.Helper()
	want := wrongByWords(from, to, slack)
	if want != api.OK {
		wrong(t, from, to, slack, want)
		return
	}
	if err := passes.Wrong(from, to, slack); err != api.OK {
		t.Errorf("%v to %v, slack %d: %d, though nothing is wrong", from, to, slack, err)
	}
}

// TestS1Ordinary: loops that go one way, both ways, further apart, closer together, and several to one needle.
func TestS1Ordinary(t *testing.T) {
	for _, x := range []struct {
		from, to []int
		slack    int
	}{
		{[]int{3}, []int{3}, 1},
		{[]int{0, 1, 2}, []int{3, 4, 5}, 1},
		{[]int{4, 6}, []int{2, 8}, 6},
		{[]int{2, 5, 9}, []int{4, 5, 6}, 4},
		{[]int{0, 1, 2, 3}, []int{0, 3, 6, 9}, 3},
		{[]int{2, 4, 6, 8, 10}, []int{7, 7, 7, 7, 7}, 2},
		{[]int{0, 1, 2, 3, 4}, []int{1, 1, 2, 3, 3}, 1},
	} {
		wrong(t, x.from, x.to, x.slack, api.OK)
		wrong(t, x.to, x.to, x.slack, wrongByWords(x.to, x.to, x.slack))
	}
}

// TestS1Loops: from 1 to MaxMoved of them, as many in to; nil and empty are none.
func TestS1Loops(t *testing.T) {
	needles := []int{0, 1, 2, 3, 4, 5, 6, 7, 8, 9, 10, 11}
	for from := range 13 {
		for to := range 13 {
			want := api.ErrMany
			if from == to && from >= 1 && from <= 5 {
				want = api.OK
			}
			wrong(t, needles[:from], needles[:to], 1, want)
		}
		wrong(t, needles[:from], nil, 1, api.ErrMany)
		wrong(t, nil, needles[:from], 1, api.ErrMany)
	}
	wrong(t, nil, []int{}, 1, api.ErrMany)
	many := make([]int, 1<<16+1)
	wrong(t, many, many, 1, api.ErrMany)
	wrong(t, many[:1], many, 1, api.ErrMany)
	wrong(t, many, many[:1], 1, api.ErrMany)
}

// TestS1Slack: from 1 on below MaxPlaces.
func TestS1Slack(t *testing.T) {
	for slack := -2; slack <= 14; slack++ {
		want := api.OK
		if slack < 1 || slack > 11 {
			want = api.ErrRange
		}
		wrong(t, []int{0}, []int{1}, slack, want)
		wrong(t, []int{3, 4}, []int{4, 5}, slack, want)
	}
	for _, slack := range oddNumbers() {
		wrong(t, []int{0}, []int{1}, slack, api.ErrRange)
		wrong(t, []int{0, 11}, []int{0, 11}, slack, api.ErrRange)
	}
}

// TestS1Apart: a loop just slack to the right of the one ahead of it, and one needle further; in from and in to, of each pair of neighbours.
func TestS1Apart(t *testing.T) {
	for slack := 1; slack <= 11; slack++ {
		for apart := 1; apart <= 11; apart++ {
			want := api.OK
			if apart > slack {
				want = api.ErrFit
			}
			for first := 0; first+apart <= 11; first++ {
				wrong(t, []int{first, first + apart}, []int{5, 6}, slack, want)
				wrong(t, []int{5, 6}, []int{first, first + apart}, slack, want)
				wrong(t, []int{first, first + apart}, []int{5, 5}, slack, want)
			}
		}
	}
	dense := []int{0, 1, 2, 3, 4}
	for pair := 1; pair < 5; pair++ {
		wide := slices.Clone(dense)
		for i := pair; i < 5; i++ {
			wide[i] += 3
		}
		wrong(t, wide, dense, 4, api.OK)
		wrong(t, dense, wide, 4, api.OK)
		wrong(t, wide, dense, 3, api.ErrFit)
		wrong(t, dense, wide, 3, api.ErrFit)
	}
}

// TestS1OneNeedle: neighbours in to may share a needle, neighbours in from may not, even where both are to go to the same one.
func TestS1OneNeedle(t *testing.T) {
	for slack := 1; slack <= 11; slack++ {
		wrong(t, []int{4, 5}, []int{7, 7}, slack, api.OK)
		wrong(t, []int{4, 4}, []int{7, 7}, slack, api.ErrFit)
		wrong(t, []int{4, 4}, []int{4, 4}, slack, api.ErrFit)
		wrong(t, []int{4, 4}, []int{7, 8}, slack, api.ErrFit)
	}
	for pair := 1; pair < 5; pair++ {
		from := []int{3, 4, 5, 6, 7}
		for i := pair; i < 5; i++ {
			from[i]--
		}
		wrong(t, from, []int{2, 2, 2, 2, 2}, 3, api.ErrFit)
		wrong(t, from, []int{2, 3, 4, 5, 6}, 3, api.ErrFit)
		wrong(t, []int{2, 3, 4, 5, 6}, from, 3, api.OK)
	}
	wrong(t, []int{0, 0, 0, 0, 0}, []int{0, 0, 0, 0, 0}, 1, api.ErrFit)
	wrong(t, []int{0, 1, 2, 3, 4}, []int{0, 0, 0, 0, 0}, 1, api.OK)
	wrong(t, []int{7, 8, 9, 10, 11}, []int{11, 11, 11, 11, 11}, 1, api.OK)
}

// TestS1ToTheLeft: none stands to the left of the one ahead of it, neither far nor near, in from nor in to.
func TestS1ToTheLeft(t *testing.T) {
	for slack := 1; slack <= 11; slack++ {
		for back := 1; back <= 11; back++ {
			wrong(t, []int{back, 0}, []int{5, 6}, slack, api.ErrFit)
			wrong(t, []int{back, 0}, []int{5, 5}, slack, api.ErrFit)
			wrong(t, []int{5, 6}, []int{11, 11 - back}, slack, api.ErrFit)
		}
	}
	for pair := range 4 {
		swapped := []int{3, 4, 5, 6, 7}
		swapped[pair], swapped[pair+1] = swapped[pair+1], swapped[pair]
		wrong(t, swapped, []int{3, 4, 5, 6, 7}, 5, api.ErrFit)
		wrong(t, []int{3, 4, 5, 6, 7}, swapped, 5, api.ErrFit)
		wrong(t, swapped, swapped, 5, api.ErrFit)
	}
}

// TestS1Needles: from 0 on below MaxPlaces, at each place of from and of to.
func TestS1Needles(t *testing.T) {
	for needle := -3; needle <= 15; needle++ {
		want := api.OK
		if needle < 0 || needle > 11 {
			want = api.ErrFit
		}
		wrong(t, []int{needle}, []int{4}, 11, want)
		wrong(t, []int{4}, []int{needle}, 11, want)
		wrong(t, []int{needle}, []int{needle}, 11, want)
	}
	for _, odd := range oddNumbers() {
		for loops := 1; loops <= 5; loops++ {
			for at := range loops {
				good := []int{2, 3, 4, 5, 6}[:loops]
				bad := slices.Clone(good)
				bad[at] = odd
				wrong(t, bad, good, 11, api.ErrFit)
				wrong(t, good, bad, 11, api.ErrFit)
				wrong(t, bad, bad, 11, api.ErrFit)
				for i := at; i < loops; i++ {
					bad[i] = odd
				}
				wrong(t, bad, good, 11, api.ErrFit)
				wrong(t, good, bad, 11, api.ErrFit)
			}
		}
	}
}

// TestS1OddPairs: two numbers whose difference would wrap round.
func TestS1OddPairs(t *testing.T) {
	for _, first := range append(oddNumbers(), 0, 1, 11) {
		for _, second := range append(oddNumbers(), 0, 1, 11) {
			for _, slack := range append(oddNumbers(), 0, 1, 10, 11) {
				pair := []int{first, second}
				wrongAsTold(t, pair, []int{0, 1}, slack)
				wrongAsTold(t, []int{0, 1}, pair, slack)
				wrongAsTold(t, pair, pair, slack)
			}
		}
	}
}

// TestS1Order: of several errors ErrMany is told ahead of ErrRange, and that ahead of ErrFit.
func TestS1Order(t *testing.T) {
	odd := []int{5, 5, -1, 12, 3, 3}
	for _, slack := range append(oddNumbers(), 0) {
		wrong(t, odd, odd, slack, api.ErrMany)
		wrong(t, odd, odd, 1, api.ErrMany)
		wrong(t, nil, nil, slack, api.ErrMany)
		for loops := 1; loops <= 5; loops++ {
			wrong(t, odd[:loops], odd[:loops+1], slack, api.ErrMany)
			wrong(t, odd[:loops+1], odd[:loops], slack, api.ErrMany)
			wrong(t, odd[:loops], odd[:loops], slack, api.ErrRange)
			wrong(t, odd[6-loops:], odd[6-loops:], slack, api.ErrRange)
		}
	}
	wrong(t, []int{12}, []int{0, 1}, 1, api.ErrMany)
	wrong(t, []int{12}, []int{0}, 0, api.ErrRange)
	wrong(t, []int{12}, []int{0}, 1, api.ErrFit)
	wrong(t, []int{2, 2}, []int{4}, 0, api.ErrMany)
	wrong(t, []int{2, 2}, []int{4, 4}, 12, api.ErrRange)
	wrong(t, []int{2, 2}, []int{4, 4}, 11, api.ErrFit)
}

// TestS1AllPairs: one loop and two, on all needles and those beside them, with all slacks.
func TestS1AllPairs(t *testing.T) {
	var lists [][]int
	for first := -1; first <= 12; first++ {
		for second := -1; second <= 12; second++ {
			lists = append(lists, []int{first, second})
		}
	}
	for slack := 0; slack <= 12; slack++ {
		for _, from := range lists {
			wrongAsTold(t, from[:1], from[1:], slack)
			for _, to := range lists {
				if err := passes.Wrong(from, to, slack); err != wrongByWords(from, to, slack) {
					t.Fatalf("%v to %v, slack %d: %d", from, to, slack, err)
				}
			}
		}
	}
}

// TestS1StrewnLoops: more of them, near one another and not.
func TestS1StrewnLoops(t *testing.T) {
	next := strew(3)
	told := map[api.Errno]int{}
	for range 200000 {
		loops, slack := 2+next(5), next(13)
		lists := [2][]int{}
		for i := range lists {
			needle := next(8) - 1
			for range loops {
				lists[i] = append(lists[i], needle)
				needle += []int{1, 1, 1, 2, 2, 3, 0, -1}[next(8-i)]
			}
		}
		want := wrongByWords(lists[0], lists[1], slack)
		told[want]++
		if err := passes.Wrong(lists[0], lists[1], slack); err != want {
			t.Fatalf("%v to %v, slack %d: %d, not %d", lists[0], lists[1], slack, err, want)
		}
	}
	for _, err := range []api.Errno{api.OK, api.ErrMany, api.ErrRange, api.ErrFit} {
		if told[err] < 2000 {
			t.Errorf("only %d of errno %d", told[err], err)
		}
	}
}
