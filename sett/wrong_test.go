package sett_test

import (
	"math"
	"slices"
	"testing"

	"tapestry/api"
)

// TestI1WrongMany: how many stripes there may be, with Pivot and without.
func TestI1WrongMany(t *testing.T) {
	for _, none := range [][]api.Stripe{nil, {}, narrow(3)[:0]} {
		tells(t, over(none...), api.ErrMany)
		tells(t, back(none...), api.ErrMany)
	}
	tells(t, over(narrow(1)...), api.OK)
	tells(t, back(narrow(1)...), api.ErrMany)
	for _, many := range []int{2, 3, 4, 255, 256} {
		tells(t, over(narrow(many)...), api.OK)
		tells(t, back(narrow(many)...), api.OK)
	}
	for _, many := range []int{257, 258, 511, 512, 513, 65536, 65537, 65792, 1 << 20} {
		tells(t, over(narrow(many)...), api.ErrMany)
		tells(t, back(narrow(many)...), api.ErrMany)
	}
}

// TestI1WrongColour: a colour at its bounds and beyond, wherever its stripe stands.
func TestI1WrongColour(t *testing.T) {
	for _, x := range []struct {
		colour int
		want   api.Errno
	}{
		{0, api.OK}, {1, api.OK}, {60, api.OK}, {61, api.OK},
		{-1, api.ErrRange}, {-2, api.ErrRange}, {62, api.ErrRange}, {63, api.ErrRange}, {256, api.ErrRange}, {4096, api.ErrRange},
		{1 << 32, api.ErrRange}, {-1 << 32, api.ErrRange}, {math.MaxInt32, api.ErrRange}, {math.MinInt32, api.ErrRange},
		{math.MaxInt, api.ErrRange}, {math.MaxInt - 1, api.ErrRange}, {math.MinInt, api.ErrRange}, {math.MinInt + 1, api.ErrRange},
	} {
		tells(t, over(stripe(x.colour, 1)), x.want)
		for _, many := range []int{2, 3, 20, 256} {
			for _, l := range amidst(many, stripe(x.colour, 1)) {
				tells(t, over(l...), x.want)
				tells(t, back(l...), x.want)
			}
		}
	}
}

// TestI1WrongCount: a count at its bounds and beyond, wherever its stripe stands; beside others MaxThreads is in its bounds, but all together are too much.
func TestI1WrongCount(t *testing.T) {
	for _, x := range []struct {
		count          int
		alone, amongst api.Errno
	}{
		{1, api.OK, api.OK}, {2, api.OK, api.OK}, {1000, api.OK, api.OK},
		{4095, api.OK, api.ErrMuch}, {4096, api.OK, api.ErrMuch},
		{4097, api.ErrRange, api.ErrRange}, {4098, api.ErrRange, api.ErrRange}, {8192, api.ErrRange, api.ErrRange}, {65537, api.ErrRange, api.ErrRange},
		{0, api.ErrRange, api.ErrRange}, {-1, api.ErrRange, api.ErrRange}, {-4096, api.ErrRange, api.ErrRange},
		{1<<32 + 1, api.ErrRange, api.ErrRange}, {-1<<32 + 1, api.ErrRange, api.ErrRange}, {math.MaxInt32, api.ErrRange, api.ErrRange}, {math.MinInt32, api.ErrRange, api.ErrRange},
		{math.MaxInt, api.ErrRange, api.ErrRange}, {math.MaxInt - 1, api.ErrRange, api.ErrRange}, {math.MinInt, api.ErrRange, api.ErrRange}, {math.MinInt + 1, api.ErrRange, api.ErrRange},
	} {
		tells(t, over(stripe(5, x.count)), x.alone)
		for _, many := range []int{3, 20, 256} {
			for _, l := range amidst(many, stripe(5, x.count)) {
				tells(t, over(l...), x.amongst)
				tells(t, back(l...), x.amongst)
			}
		}
	}
}

// TestI1WrongMuch: just MaxThreads threads, and one more.
func TestI1WrongMuch(t *testing.T) {
	for _, x := range []struct {
		name  string
		pivot bool
		just  []int
	}{
		{"one stripe", false, []int{4096}},
		{"two", false, []int{4095, 1}},
		{"two of as many", false, []int{2048, 2048}},
		{"three", false, []int{1, 1, 4094}},
		{"MaxStripes", false, slices.Repeat([]int{16}, 256)},
		{"two there and back come once", true, []int{2048, 2048}},
		{"the first one once", true, []int{4095, 1}},
		{"the last one once", true, []int{1, 4095}},
		{"the middle one twice", true, []int{1, 2047, 1}},
		{"the middle one twice, beside a great first one", true, []int{4092, 1, 2}},
		{"the middle one twice, beside a great last one", true, []int{2, 1, 4092}},
		{"all but the first and the last twice", true, []int{6, 5, 1000, 1030, 7, 6}},
		{"MaxStripes there and back", true, append(append([]int{16}, slices.Repeat([]int{8}, 254)...), 16)},
	} {
		tells(t, api.Sett{Pivot: x.pivot, Stripes: counts(x.just...)}, api.OK)
		for i := range x.just {
			if x.just[i] == 4096 {
				continue // one more is out of range
			}
			more := slices.Clone(x.just)
			more[i]++
			tells(t, api.Sett{Pivot: x.pivot, Stripes: counts(more...)}, api.ErrMuch)
		}
	}
	for _, l := range [][]int{{4096, 1}, {1, 4096}, {4096, 4096}, {1, 4096, 1}, {2, 2047, 1}, {1, 2048, 1}, slices.Repeat([]int{4096}, 256)} {
		tells(t, back(counts(l...)...), api.ErrMuch)
	}
	tells(t, over(counts(1, 2048, 1)...), api.OK)
	tells(t, over(counts(4096, 1)...), api.ErrMuch)
	tells(t, over(counts(slices.Repeat([]int{4096}, 256)...)...), api.ErrMuch)
}

// TestE4FirstErrorOfASett: where several are wrong, I1's order holds: how many stripes, their numbers, all threads.
func TestE4FirstErrorOfASett(t *testing.T) {
	for _, x := range []api.Stripe{stripe(-1, 1), stripe(62, 4096), stripe(3, 0), stripe(3, 4097), stripe(-1, -1), stripe(math.MinInt, math.MaxInt)} {
		tells(t, over(x), api.ErrRange)
		tells(t, back(x), api.ErrMany)
		for _, l := range slices.Concat(amidst(257, x), amidst(300, x)) {
			tells(t, over(l...), api.ErrMany)
			tells(t, back(l...), api.ErrMany)
			l[5].Count = 4096
			tells(t, over(l...), api.ErrMany)
		}
		for _, much := range [][]api.Stripe{counts(4096, 4096), counts(1, 4096, 2000)} {
			for at := range len(much) + 1 {
				l := slices.Insert(slices.Clone(much), at, x)
				tells(t, over(l...), api.ErrRange)
				tells(t, back(l...), api.ErrRange)
			}
		}
	}
	tells(t, back(stripe(3, 4096)), api.ErrMany)
	tells(t, over(counts(slices.Repeat([]int{4096}, 257)...)...), api.ErrMany)
}

// TestI1WrongByOne: all small setts of few numbers, right and wrong ones.
func TestI1WrongByOne(t *testing.T) {
	var all []api.Stripe
	for _, colour := range []int{-1, 0, 61, 62} {
		for _, count := range []int{0, 1, 2047, 2048, 4096, 4097} {
			all = append(all, stripe(colour, count))
		}
	}
	for _, one := range all {
		for _, other := range all {
			for _, third := range all {
				for _, l := range [][]api.Stripe{{one}, {one, other}, {one, other, third}} {
					tells(t, over(l...), wrongByWords(over(l...)))
					tells(t, back(l...), wrongByWords(back(l...)))
				}
			}
		}
	}
}
