package draft_test

import (
	"math"
	"slices"
	"testing"

	"tapestry/api"
	"tapestry/draft"
)

// calls are all calls that take a draft, as functions that tell the error, and whether all else is zero.
func calls(d api.Draft) map[string]func() (api.Errno, bool) {
	return map[string]func() (api.Errno, bool){
		"Wrong":    func() (api.Errno, bool) { return draft.Wrong(d), true },
		"Drawdown": func() (api.Errno, bool) { m, err := draft.Drawdown(d); return err, isZero(m) },
		"Chain": func() (api.Errno, bool) {
			treadling, tie, threading, err := draft.Chain(d)
			return err, isZero(treadling) && isZero(tie) && isZero(threading)
		},
	}
}

// tells holds what all calls tell of a draft against what is wanted; where it is an error, all else must be zero.
func tells(t *testing.T, name string, d api.Draft, want api.Errno) {
	t.Helper()
	for call, ask := range calls(d) {
		if err, zero := ask(); err != want || zero != (want != api.OK || call == "Wrong") {
			t.Errorf("%s: %s tells %d, zero %v, not %d", name, call, err, zero, want)
		}
	}
}

// wrongTruths are truths with each thing that can be wrong with them, and what that is.
var wrongTruths = []struct {
	name string
	m    api.Truth
	want api.Errno
}{
	{"Wide below 0", api.Truth{Wide: -1, High: 2}, api.ErrRange},
	{"High below 0", api.Truth{Wide: 3, High: -1}, api.ErrRange},
	{"both below 0, with as many bits", api.Truth{Wide: -3, High: -2, Bits: make([]bool, 6)}, api.ErrRange},
	{"too wide", none(65, 2), api.ErrRange},
	{"too high", none(3, 65), api.ErrRange},
	{"too wide and too high", none(65, 65), api.ErrRange},
	{"too wide, no rows", api.Truth{Wide: 65}, api.ErrRange},
	{"too high, no columns", api.Truth{High: 65}, api.ErrRange},
	{"least Wide", api.Truth{Wide: math.MinInt, High: 2}, api.ErrRange},
	{"greatest High", api.Truth{Wide: 3, High: math.MaxInt}, api.ErrRange},
	{"both greatest", api.Truth{Wide: math.MaxInt, High: math.MaxInt, Bits: []bool{true}}, api.ErrRange}, // their product wraps round to 1
	{"sides that wrap round to 0", api.Truth{Wide: 1 << 32, High: 1 << 32}, api.ErrRange},
	{"too wide, without bits", api.Truth{Wide: 65, High: 2}, api.ErrRange},
	{"no bits", api.Truth{Wide: 3, High: 2}, api.ErrFit},
	{"a bit too few", api.Truth{Wide: 3, High: 2, Bits: make([]bool, 5)}, api.ErrFit},
	{"a bit too few, and one of spare room", api.Truth{Wide: 3, High: 2, Bits: make([]bool, 5, 6)}, api.ErrFit},
	{"a bit too many", api.Truth{Wide: 3, High: 2, Bits: make([]bool, 7)}, api.ErrFit},
	{"a row too many", api.Truth{Wide: 3, High: 2, Bits: make([]bool, 9)}, api.ErrFit},
	{"a bit, and no sides", api.Truth{Bits: []bool{true}}, api.ErrFit},
	{"a bit, and no rows", api.Truth{Wide: 3, Bits: []bool{true}}, api.ErrFit},
	{"a bit, and no columns", api.Truth{High: 2, Bits: []bool{true}}, api.ErrFit},
	{"greatest sides, a bit too few", api.Truth{Wide: 64, High: 64, Bits: make([]bool, 4095, 4096)}, api.ErrFit},
	{"greatest sides, a bit too many", api.Truth{Wide: 64, High: 64, Bits: make([]bool, 4097)}, api.ErrFit},
}

// TestD1WrongTie: what is wrong with Tie is told ahead of all else that is wrong.
func TestD1WrongTie(t *testing.T) {
	lists := [][]int{{0, 1, 0}, {0}, nil, {-1}, {3}, {2}, {math.MaxInt}, make([]int, 64), make([]int, 65)}
	for _, x := range wrongTruths {
		for _, threading := range lists {
			for _, treadling := range lists {
				tells(t, x.name, api.Draft{Threading: threading, Tie: x.m, Treadling: treadling}, x.want)
			}
		}
	}
}

// TestD1HowMany: ends and picks are from one to MaxTruth, whatever their numbers are.
func TestD1HowMany(t *testing.T) {
	counts := []int{0, 1, 2, 63, 64, 65, 66, 128, 1000}
	for _, tie := range []api.Truth{of("101", "010"), of("1"), every(64, 64), none(1, 64), none(64, 1)} {
		for _, ends := range counts {
			for _, picks := range counts {
				want := api.OK
				if ends == 0 || picks == 0 || ends > 64 || picks > 64 {
					want = api.ErrMany
				}
				tells(t, "as many", api.Draft{Threading: make([]int, ends), Tie: tie, Treadling: make([]int, picks)}, want)
			}
		}
	}
}

// TestD1ManyAheadOfFit: that there are too few or too many is told ahead of numbers that don't fit, of either list.
func TestD1ManyAheadOfFit(t *testing.T) {
	sixtyFive := slices.Repeat([]int{7}, 65)
	for _, x := range []struct {
		name                 string
		threading, treadling []int
		want                 api.Errno
	}{
		{"no ends, a treadle too high", nil, []int{2}, api.ErrMany},
		{"no ends, a treadle below 0", nil, []int{-1}, api.ErrMany},
		{"no picks, a shaft too high", []int{3}, nil, api.ErrMany},
		{"no picks, a shaft below 0", []int{-1}, nil, api.ErrMany},
		{"too many ends that don't fit", sixtyFive, []int{0}, api.ErrMany},
		{"too many picks that don't fit", []int{0}, sixtyFive, api.ErrMany},
		{"too many picks, a shaft that doesn't fit", []int{0, 3}, make([]int, 65), api.ErrMany},
		{"too many ends, a treadle that doesn't fit", make([]int, 65), []int{0, 2}, api.ErrMany},
		{"too many of both that don't fit", sixtyFive, sixtyFive, api.ErrMany},
		{"no ends, too many picks", nil, make([]int, 65), api.ErrMany},
		{"neither ends nor picks", nil, nil, api.ErrMany},
		{"as many as there may be that don't fit", sixtyFive[:64], sixtyFive[:64], api.ErrFit},
		{"neither fits", []int{3}, []int{2}, api.ErrFit},
	} {
		tells(t, x.name, api.Draft{Threading: x.threading, Tie: of("101", "010"), Treadling: x.treadling}, x.want)
	}
}

// TestD1NumbersFit: a number of Threading is from 0 on below Wide, one of Treadling from 0 on below High.
func TestD1NumbersFit(t *testing.T) {
	for wide := 1; wide <= 64; wide++ {
		for high := 1; high <= 64; high++ {
			if wide > 6 && high > 6 && wide != 64 && high != 64 {
				continue
			}
			tie := none(wide, high)
			for _, n := range []int{math.MinInt, -65, -2, -1, 0, 1, wide - 1, wide, wide + 1, high - 1, high, high + 1, wide * high, 64, 65, math.MaxInt} {
				d := api.Draft{Threading: []int{n}, Tie: tie, Treadling: []int{0}}
				tells(t, "one end", d, fits(n, wide))
				d = api.Draft{Threading: []int{0}, Tie: tie, Treadling: []int{n}}
				tells(t, "one pick", d, fits(n, high))
			}
		}
	}
}

func fits(n, below int) api.Errno {
	if n < 0 || n >= below {
		return api.ErrFit
	}
	return api.OK
}

// TestD1OneNumberOfMany: one number alone that doesn't fit is found, wherever it stands.
func TestD1OneNumberOfMany(t *testing.T) {
	for _, count := range []int{1, 2, 5, 64} {
		for at := range count {
			for _, n := range []int{-1, 2, 3, 4, 64, math.MinInt, math.MaxInt} {
				d := api.Draft{Threading: make([]int, count), Tie: every(4, 3), Treadling: make([]int, count)}
				d.Threading[at] = n
				tells(t, "one end of many", d, fits(n, 4))
				d.Threading[at], d.Treadling[at] = 0, n
				tells(t, "one pick of many", d, fits(n, 3))
			}
		}
	}
}

// TestD1TieWithoutBits: nothing is wrong with such a Tie, but no end hangs on no shaft, and no pick has no treadle.
func TestD1TieWithoutBits(t *testing.T) {
	for n := range 65 {
		for _, tie := range []api.Truth{none(n, 0), none(0, n)} {
			tells(t, "ends and picks", api.Draft{Threading: []int{0}, Tie: tie, Treadling: []int{0}}, api.ErrFit)
			tells(t, "no ends", api.Draft{Tie: tie, Treadling: []int{0}}, api.ErrMany)
			tells(t, "no picks", api.Draft{Threading: []int{0}, Tie: tie}, api.ErrMany)
			tells(t, "neither", api.Draft{Tie: tie}, api.ErrMany)
		}
	}
	tells(t, "nothing at all", api.Draft{}, api.ErrMany)
}

func TestD1NothingWrong(t *testing.T) {
	tells(t, "the plain one", plainDraft(), api.OK)
	for _, d := range slices.Concat(smallDrafts(), greatDrafts()) {
		if err := draft.Wrong(d); err != api.OK {
			t.Fatalf("%v: %d", d, err)
		}
	}
}

// TestE3NilIsEmpty: lists without entries are the same as nil.
func TestE3NilIsEmpty(t *testing.T) {
	for _, empty := range [][]int{nil, {}, make([]int, 0, 9)} {
		tells(t, "no ends", api.Draft{Threading: empty, Tie: of("1"), Treadling: []int{0}}, api.ErrMany)
		tells(t, "no picks", api.Draft{Threading: []int{0}, Tie: of("1"), Treadling: empty}, api.ErrMany)
	}
	for _, empty := range [][]bool{nil, {}, make([]bool, 0, 9)} {
		d := api.Draft{Threading: []int{0}, Tie: api.Truth{Wide: 1, Bits: empty}, Treadling: []int{0}}
		tells(t, "no treadles", d, api.ErrFit)
		d.Tie.High = 1
		tells(t, "no bits", d, api.ErrFit)
		for _, m := range []api.Truth{{Bits: empty}, {Wide: 3, Bits: empty}, {High: 3, Bits: empty}} {
			if got, err := draft.Fewest(m); err != api.ErrMany || !isZeroDraft(got) {
				t.Errorf("the fewest for %v: %v %d", m, got, err)
			}
		}
	}
}

func isZeroDraft(d api.Draft) bool {
	return len(d.Threading) == 0 && isZero(d.Tie) && len(d.Treadling) == 0
}
