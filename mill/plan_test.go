package mill_test

import (
	"slices"
	"testing"

	"tapestry/api"
	"tapestry/mill"
)

// TestM1Example17: jobs of 3 and 4 on two looms are done at 4; on one at 7, in either order.
func TestM1Example17(t *testing.T) {
	isPlanned(t, []int{3, 4}, 2, []api.Job{job(0, 0), job(1, 0)}, 4)
	isPlanned(t, []int{4, 3}, 2, []api.Job{job(0, 0), job(1, 0)}, 4)
	isPlanned(t, []int{3, 4}, 1, []api.Job{job(0, 0), job(0, 3)}, 7)
	isPlanned(t, []int{4, 3}, 1, []api.Job{job(0, 0), job(0, 4)}, 7)
}

// TestM1PlanKnown: what was worked out by hand.
func TestM1PlanKnown(t *testing.T) {
	for _, x := range []struct {
		name  string
		looms int
		picks []int
		want  []api.Job
		last  int
	}{
		{"one job, one loom", 1, []int{5}, []api.Job{job(0, 0)}, 5},
		{"one job, sixteen looms", 16, []int{5}, []api.Job{job(0, 0)}, 5},
		{"one loom: one behind the other", 1, []int{5, 3, 8, 1}, []api.Job{job(0, 0), job(0, 5), job(0, 8), job(0, 16)}, 17},
		{"as many looms as jobs", 3, []int{5, 3, 8}, []api.Job{job(0, 0), job(1, 0), job(2, 0)}, 8},
		{"more looms than jobs", 7, []int{5, 9, 8}, []api.Job{job(0, 0), job(1, 0), job(2, 0)}, 9},
		{"one more job than looms", 3, []int{5, 3, 8, 1}, []api.Job{job(0, 0), job(1, 0), job(2, 0), job(1, 3)}, 8},
		{"all free at the same time, over and over", 3, []int{2, 2, 2, 2, 2, 2, 2}, []api.Job{job(0, 0), job(1, 0), job(2, 0), job(0, 2), job(1, 2), job(2, 2), job(0, 4)}, 6},
		{"two of three free at the same time", 3, []int{9, 4, 4, 1, 1}, []api.Job{job(0, 0), job(1, 0), job(2, 0), job(1, 4), job(2, 4)}, 9},
		{"free at the same time, by unlike jobs", 2, []int{6, 2, 4, 5, 1}, []api.Job{job(0, 0), job(1, 0), job(1, 2), job(0, 6), job(1, 6)}, 11},
		{"the last loom is free first", 3, []int{3, 2, 1, 7}, []api.Job{job(0, 0), job(1, 0), job(2, 0), job(2, 1)}, 8},
		{"the one in the midst is free first", 3, []int{3, 1, 2, 7}, []api.Job{job(0, 0), job(1, 0), job(2, 0), job(1, 1)}, 8},
		{"jobs that take 0: the first loom stays free", 2, []int{0, 0, 0}, []api.Job{job(0, 0), job(0, 0), job(0, 0)}, 0},
		{"0 ahead of others", 3, []int{0, 4, 0, 5}, []api.Job{job(0, 0), job(0, 0), job(1, 0), job(1, 0)}, 5},
		{"0 behind others", 2, []int{3, 4, 0, 0, 2, 0, 0}, []api.Job{job(0, 0), job(1, 0), job(0, 3), job(0, 3), job(0, 3), job(1, 4), job(1, 4)}, 5},
		{"it waits till a loom has done all of its jobs", 2, []int{2, 9, 2, 2, 2, 2}, []api.Job{job(0, 0), job(1, 0), job(0, 2), job(0, 4), job(0, 6), job(0, 8)}, 10},
		{"both have done several", 2, []int{2, 3, 2, 3, 2}, []api.Job{job(0, 0), job(1, 0), job(0, 2), job(1, 3), job(0, 4)}, 6},
		{"the first job is done last", 2, []int{100, 1, 1, 1}, []api.Job{job(0, 0), job(1, 0), job(1, 1), job(1, 2)}, 100},
		{"one in the midst is done last", 3, []int{1, 1, 50, 1, 1}, []api.Job{job(0, 0), job(1, 0), job(2, 0), job(0, 1), job(1, 1)}, 50},
		{"the last job begins last, and is done first", 2, []int{5, 7, 6, 1}, []api.Job{job(0, 0), job(1, 0), job(0, 5), job(1, 7)}, 11},
		{"eight jobs on three looms", 3, []int{5, 3, 8, 1, 1, 0, 9, 2}, []api.Job{job(0, 0), job(1, 0), job(2, 0), job(1, 3), job(1, 4), job(0, 5), job(0, 5), job(1, 5)}, 14},
		{"as long ones as there may be", 2, []int{api.MaxCloth, 1, api.MaxCloth, 1}, []api.Job{job(0, 0), job(1, 0), job(1, 1), job(0, 1048576)}, 1048577},
	} {
		t.Run(x.name, func(t *testing.T) { isPlanned(t, x.picks, x.looms, x.want, x.last) })
	}
}

// TestM1PlanNothing: of no jobs nothing, done at 0; of jobs that take 0 all are the first loom's.
func TestM1PlanNothing(t *testing.T) {
	for looms := 1; looms <= api.MaxLooms; looms++ {
		for _, none := range [][]int{nil, {}} {
			isPlanned(t, none, looms, nil, 0)
		}
		for _, many := range []int{1, 2, 16, 17, api.MaxJobs} {
			isPlanned(t, make([]int, many), looms, make([]api.Job, many), 0)
		}
	}
}

// TestM1PlanMost: MaxJobs jobs of MaxCloth, for each number of looms: they go by turns.
func TestM1PlanMost(t *testing.T) {
	l := slices.Repeat([]int{1048576}, 64)
	want := make([]api.Job, 64)
	for looms := 1; looms <= 16; looms++ {
		for i := range want {
			want[i] = job(i%looms, i/looms*1048576)
		}
		isPlanned(t, l, looms, want, (64+looms-1)/looms*1048576)
	}
	_, one, _ := mill.Plan(l, api.MaxLooms)
	_, all, _ := mill.Plan(l, 1)
	if one != 4194304 || all != 67108864 {
		t.Errorf("on all looms %d, on one %d", one, all)
	}
}

// TestM1PlanByTurns: as long jobs go by turns, from the loom with the least number on.
func TestM1PlanByTurns(t *testing.T) {
	for looms := 1; looms <= api.MaxLooms; looms++ {
		for many := 0; many <= api.MaxJobs; many++ {
			want := make([]api.Job, many)
			last := 0
			for i := range want {
				want[i] = job(i%looms, i/looms*7)
				last = i/looms*7 + 7
			}
			isPlanned(t, slices.Repeat([]int{7}, many), looms, want, last)
		}
	}
}

// TestM1PlanAnyLast: whichever job is done last, when it is done is told.
func TestM1PlanAnyLast(t *testing.T) {
	for looms := 2; looms <= api.MaxLooms; looms++ {
		for at := range looms {
			l := slices.Repeat([]int{1}, looms+1)
			l[at] = 900
			want := make([]api.Job, len(l))
			for loom := range looms {
				want[loom] = job(loom, 0)
			}
			want[looms] = job(0, 1)
			if at == 0 {
				want[looms] = job(1, 1)
			}
			isPlanned(t, l, looms, want, 900)
		}
	}
}

// asPlanned: Plan tells what M1's words do.
func asPlanned(t *testing.T, picks []int, looms int) {
	t.Helper()
	want, last := planByWords(picks, looms)
	isPlanned(t, picks, looms, want, last)
}

// lists are all lists of so many numbers from 0 on below limit.
func lists(many, limit int) [][]int {
	out := [][]int{nil}
	for range many {
		var longer [][]int
		for _, l := range out {
			for n := range limit {
				longer = append(longer, slices.Concat(l, []int{n}))
			}
		}
		out = longer
	}
	return out
}

// TestM1PlanSmallByTheWords: all lists of up to six short jobs on few looms, held against both other ways of planning.
func TestM1PlanSmallByTheWords(t *testing.T) {
	for looms := 1; looms <= 5; looms++ {
		for many := range 7 {
			for _, l := range lists(many, 4) {
				asPlanned(t, l, looms)
				want, last := planByClock(l, looms)
				isPlanned(t, l, looms, want, last)
			}
		}
	}
}

// drawn are many lists: short and long ones, of few numbers and of many; some with many jobs that take 0.
func drawn(seed int) (picks []int, looms int) {
	looms = 1 + strewn([]int{3, api.MaxLooms}[seed%2], 5*seed)
	many := strewn([]int{6, 20, api.MaxJobs + 1}[seed%3], 5*seed+1)
	limit := []int{2, 4, 30, 1000, api.MaxCloth + 1}[seed%5]
	picks = make([]int, many)
	for i := range picks {
		if seed%4 != 0 || strewn(3, 100*seed+2*i) == 0 {
			picks[i] = strewn(limit, 100*seed+2*i+1)
		}
	}
	return picks, looms
}

// TestM1PlanByTheWords: drawn lists.
func TestM1PlanByTheWords(t *testing.T) {
	for seed := range 6000 {
		picks, looms := drawn(seed)
		asPlanned(t, picks, looms)
		if len(picks) > 0 && slices.Max(picks) < 30 {
			want, last := planByClock(picks, looms)
			isPlanned(t, picks, looms, want, last)
		}
	}
}

// TestM1NoLoomIdles: what comes of it: on each loom one job begins when the one ahead of it is done, none waits while a loom is free, and all are done at most the longest job later than if they were shared evenly.
func TestM1NoLoomIdles(t *testing.T) {
	for seed := range 2000 {
		picks, looms := drawn(20000 + seed)
		jobs, last, err := mill.Plan(picks, looms)
		if err != api.OK || len(jobs) != len(picks) {
			t.Fatalf("%v on %d looms: %v, %d", picks, looms, jobs, err)
		}
		free := make([]int, looms)
		longest := 0
		for i, j := range jobs {
			if j.Loom < 0 || j.Loom >= looms || j.From != free[j.Loom] || j.From > slices.Min(free) {
				t.Fatalf("%v on %d looms: the job at %d is %v, and looms are free from %v on", picks, looms, i, j, free)
			}
			free[j.Loom] += picks[i]
			longest = max(longest, picks[i])
		}
		if last != slices.Max(free) || last*looms > together(picks)+looms*longest {
			t.Errorf("%v on %d looms: done at %d, and looms are free from %v on", picks, looms, last, free)
		}
	}
}
