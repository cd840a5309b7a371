package mill_test

import (
	"math"
	"slices"
	"testing"

	"tapestry/api"
	"tapestry/mill"
)

// planTells: Plan tells this error; beside it all else is zero.
func planTells(t *testing.T, picks []int, looms int, want api.Errno) {
	t.Helper()
	jobs, last, err := mill.Plan(picks, looms)
	if err != want || want != api.OK && (len(jobs) != 0 || last != 0) || want == api.OK && len(jobs) != len(picks) {
		t.Errorf("Plan of %d jobs %v.. on %d looms: %d jobs, %d, %d, not %d", len(picks), picks[:min(5, len(picks))], looms, len(jobs), last, err, want)
	}
}

// weaveTells: likewise, Weave.
func weaveTells(t *testing.T, l []api.Truth, looms int, want api.Errno) {
	t.Helper()
	decks, bytes, err := mill.Weave(l, looms)
	if err != want || want != api.OK && (len(decks) != 0 || bytes != 0) || want == api.OK && len(decks) != len(l) {
		t.Errorf("Weave of %d cloths on %d looms: %d decks, %d bytes, %d, not %d", len(l), looms, len(decks), bytes, err, want)
	}
}

// bothTell: Plan and Weave tell this error, of so many right jobs.
func bothTell(t *testing.T, many, looms int, want api.Errno) {
	t.Helper()
	planTells(t, slices.Repeat([]int{3}, many), looms, want)
	weaveTells(t, slices.Repeat([]api.Truth{plainWeave(3, 2)}, many), looms, want)
}

// wrongLooms are numbers that looms can't be, at int's own bounds and at those of shorter numbers too.
func wrongLooms() []int {
	return []int{math.MinInt, math.MinInt + 1, -1 << 40, -1<<32 + 1, math.MinInt32, -256, -17, -16, -2, -1, 0,
		api.MaxLooms + 1, api.MaxLooms + 2, 32, 64, 256, 257, 65537, math.MaxInt32, 1<<32 + 1, 1 << 62, math.MaxInt - 1, math.MaxInt}
}

// wrongPicks are numbers that picks can't be.
func wrongPicks() []int {
	return []int{math.MinInt, math.MinInt + 1, math.MinInt / 2, -1 << 40, -1<<32 + 1, math.MinInt32, -api.MaxCloth, -2, -1,
		api.MaxCloth + 1, api.MaxCloth + 2, 2 * api.MaxCloth, math.MaxInt32, 1<<32 + 1, 1 << 62, math.MaxInt - 1, math.MaxInt}
}

// TestM1WrongMany: MaxJobs jobs, and more.
func TestM1WrongMany(t *testing.T) {
	for _, looms := range []int{1, 2, 15, 16} {
		for _, many := range []int{0, 1, 2, 63, 64} {
			bothTell(t, many, looms, api.OK)
		}
		for _, many := range []int{65, 66, 128, 256, 257, 320, 65536, 65537} {
			bothTell(t, many, looms, api.ErrMany)
		}
	}
}

// TestM1WrongLooms: looms at their bounds, and beyond them.
func TestM1WrongLooms(t *testing.T) {
	for _, many := range []int{0, 1, 2, 17, 64} {
		for looms := 1; looms <= 16; looms++ {
			bothTell(t, many, looms, api.OK)
		}
		for _, looms := range wrongLooms() {
			bothTell(t, many, looms, api.ErrRange)
		}
		for _, looms := range []int{0, -1, 17, math.MinInt, math.MaxInt} {
			bothTell(t, many, looms, api.ErrRange)
		}
	}
}

// TestM1WrongBoth: too many jobs, and looms that can't be: that there are too many is told.
func TestM1WrongBoth(t *testing.T) {
	for _, many := range []int{65, 66, 1000} {
		for _, looms := range wrongLooms() {
			bothTell(t, many, looms, api.ErrMany)
		}
	}
}

// amidst are lists of so many, with another one as the first, in the middle and as the last.
func amidst[T any](many int, one, other T) (out [][]T) {
	for _, at := range []int{0, many / 2, many - 1} {
		l := slices.Repeat([]T{one}, many)
		l[at] = other
		out = append(out, l)
	}
	return out
}

// TestM1WrongPicks: how many picks a job may have, at the bounds and beyond, wherever it stands in its list.
func TestM1WrongPicks(t *testing.T) {
	for _, many := range []int{1, 2, 3, 20, 64} {
		for _, looms := range []int{1, 2, 16} {
			for _, right := range []int{0, 1, 2, 1048575, 1048576} {
				for _, l := range amidst(many, 1, right) {
					planTells(t, l, looms, api.OK)
				}
			}
			for _, wrong := range append(wrongPicks(), -1, 1048577) {
				for _, ordinary := range []int{0, 1, api.MaxCloth} {
					for _, l := range amidst(many, ordinary, wrong) {
						planTells(t, l, looms, api.ErrRange)
					}
				}
			}
		}
	}
	planTells(t, []int{-1, 1}, 2, api.ErrRange)
	planTells(t, []int{1, -1}, 2, api.ErrRange)
	planTells(t, []int{math.MaxInt, math.MaxInt, math.MinInt}, 1, api.ErrRange)
}

// TestE4PlanFirstError: where several are wrong, M1's order holds: how many jobs, looms, picks.
func TestE4PlanFirstError(t *testing.T) {
	for _, wrong := range wrongPicks() {
		for _, many := range []int{65, 100} {
			for _, l := range append(amidst(many, 1, wrong), slices.Repeat([]int{wrong}, many)) {
				planTells(t, l, 1, api.ErrMany)
				planTells(t, l, 16, api.ErrMany)
				for _, looms := range wrongLooms() {
					planTells(t, l, looms, api.ErrMany)
				}
			}
		}
		for _, looms := range wrongLooms() {
			planTells(t, []int{wrong}, looms, api.ErrRange)
			planTells(t, []int{1, 2, wrong}, looms, api.ErrRange)
		}
		planTells(t, slices.Repeat([]int{wrong}, 64), 3, api.ErrRange)
	}
}

// TestE4WeaveFirstError: how many cloths there are, and looms, are told ahead of what is wrong with a cloth.
func TestE4WeaveFirstError(t *testing.T) {
	for _, x := range wrongCloths() {
		for _, l := range append(amidst(65, plainWeave(2, 2), x.m), slices.Repeat([]api.Truth{x.m}, 65)) {
			for _, looms := range append(wrongLooms(), 1, 3, 16) {
				weaveTells(t, l, looms, api.ErrMany)
			}
		}
		for _, l := range append(amidst(64, plainWeave(2, 2), x.m), slices.Repeat([]api.Truth{x.m}, 64)) {
			for _, looms := range wrongLooms() {
				weaveTells(t, l, looms, api.ErrRange)
			}
		}
	}
}
