package passes_test

import (
	"cmp"
	"slices"

	"tapestry/api"
)

// What the promises say, in their own words, and loops to hold them against.

// standByWords is S1: whether loops may stand so. The needles are few, so that nothing wraps round behind the first look.
func standByWords(at, to []int, slack int) bool {
	for _, needle := range at {
		if needle < 0 || needle > 11 {
			return false
		}
	}
	for i := 1; i < len(at); i++ {
		toTheLeft := at[i] < at[i-1]
		tooFar := at[i] > at[i-1]+slack
		onItsNeedle := at[i] == at[i-1]
		toTheSame := to[i] == to[i-1]
		if toTheLeft || tooFar || onItsNeedle && !toTheSame {
			return false
		}
	}
	return true
}

// wrongByWords is S1.
func wrongByWords(from, to []int, slack int) api.Errno {
	switch {
	case len(from) == 0, len(from) > 5, len(from) != len(to):
		return api.ErrMany
	case slack < 1, slack > 11:
		return api.ErrRange
	case len(slices.Compact(slices.Clone(from))) != len(from):
		return api.ErrFit
	case !standByWords(from, to, slack), !standByWords(to, to, slack):
		return api.ErrFit
	}
	return api.OK
}

// passesByWords is S2: all passes of so many loops, by By, then by Which.
func passesByWords(loops int) []api.Pass {
	var out []api.Pass
	for which := 1; which < 1<<loops; which++ {
		for _, by := range []int{2, 1, -1, -2} {
			out = append(out, api.Pass{By: by, Which: which})
		}
	}
	slices.SortFunc(out, ahead)
	return out
}

func ahead(x, y api.Pass) int {
	return cmp.Or(cmp.Compare(x.By, y.By), cmp.Compare(x.Which, y.Which))
}

// movedByWords is S2: what is marked by 1 is the first loop, by 2 the second one, then 4, 8, 16.
func movedByWords(at []int, p api.Pass) []int {
	out := slices.Clone(at)
	for i, mark := range []int{1, 2, 4, 8, 16}[:len(at)] {
		if p.Which&mark != 0 {
			out[i] += p.By
		}
	}
	return out
}

// checkByWords is S2, where nothing is wrong.
func checkByWords(from, to []int, slack int, l []api.Pass) bool {
	all := passesByWords(len(from))
	for _, p := range l {
		if !slices.Contains(all, p) {
			return false
		}
		if from = movedByWords(from, p); !standByWords(from, to, slack) {
			return false
		}
	}
	return slices.Equal(from, to)
}

// listsByWords gives all lists of so many passes, behind each of which loops may stand so, that bring all to where they are to go: in the order of S2, till told to stop. It answers whether it went through.
func listsByWords(at, to []int, slack, count int, l []api.Pass, give func([]api.Pass) bool) bool {
	if count == 0 {
		return !slices.Equal(at, to) || give(l)
	}
	for _, p := range passesByWords(len(at)) {
		next := movedByWords(at, p)
		if standByWords(next, to, slack) && !listsByWords(next, to, slack, count-1, append(slices.Clip(l), p), give) {
			return false
		}
	}
	return true
}

// firstByWords is the first list of so many passes that does it, if there is one.
func firstByWords(from, to []int, slack, count int) (first []api.Pass, found bool) {
	listsByWords(from, to, slack, count, nil, func(l []api.Pass) bool {
		first, found = l, true
		return false
	})
	return first, found
}

// key is a way to stand.
type key [5]int

func keyOf(at []int) (out key) {
	copy(out[:], at)
	return out
}

// plansByWords are, of each way to stand, the fewest passes that lead there, of as many those that come first; to says who may share a needle. From from on: those that lead to one further way come first, if those to the way ahead of it do.
func plansByWords(from, to []int, slack int) map[key][]api.Pass {
	all := passesByWords(len(from))
	plans := map[key][]api.Pass{keyOf(from): nil}
	reached := [][]int{from}
	for len(reached) > 0 {
		at := reached[0]
		reached = reached[1:]
		for _, p := range all {
			next := movedByWords(at, p)
			if _, known := plans[keyOf(next)]; known || !standByWords(next, to, slack) {
				continue
			}
			plans[keyOf(next)] = append(slices.Clip(plans[keyOf(at)]), p)
			reached = append(reached, next)
		}
	}
	return plans
}

// ways are all ways that so many loops can stand, each from least to most needles to the right of the one ahead of it.
func ways(loops, least, most int) [][]int {
	var out [][]int
	var lay func(l []int)
	lay = func(l []int) {
		if len(l) == loops {
			out = append(out, l)
			return
		}
		first, last := 0, 11
		if len(l) > 0 {
			first, last = l[len(l)-1]+least, min(11, l[len(l)-1]+most)
		}
		for needle := first; needle <= last; needle++ {
			lay(append(slices.Clip(l), needle))
		}
	}
	lay(nil)
	return out
}

// sharing is which neighbours are to go to the same needle, a bit each: what may be on the way hangs on that alone.
func sharing(to []int) int {
	out := 0
	for i := 1; i < len(to); i++ {
		if to[i] == to[i-1] {
			out |= 1 << i
		}
	}
	return out
}

// strew makes numbers without order; each seed makes others.
func strew(seed int) func(below int) int {
	s := uint32(seed)*2654435761 + 98765
	return func(below int) int {
		s = s*1664525 + 1013904223
		return int(s>>16) % below
	}
}

// oddNumbers are numbers at which much could go wrong: neither needles, slacks nor passes.
func oddNumbers() []int {
	const most = int(^uint(0) >> 1)
	return []int{-1, 12, 13, -12, 1 << 8, 1 << 31, 1 << 32, 1<<32 + 1, -1 << 32, most, most - 1, most - 11, -most - 1, -most, -most + 11}
}
