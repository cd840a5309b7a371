package sett_test

import (
	"slices"
	"testing"

	"tapestry/api"
	"tapestry/sett"
)

const a, b, c, d = 36, 37, 38, 39

// TestExample18: of the document.
func TestExample18(t *testing.T) {
	two, three := back(stripe(a, 2), stripe(b, 1)), back(stripe(a, 2), stripe(b, 1), stripe(c, 3))
	prints(t, two, "/a2 b1/")
	prints(t, three, "/a2 b1 c3/")
	hasThreads(t, two, []int{a, a, b})
	hasThreads(t, three, []int{a, a, b, c, c, c, b})
	foldsTo(t, []int{a, a, b}, two)
	foldsTo(t, []int{a, a, b, c, c, c, b}, three)
}

// TestI1ThreadsByHand: threads written out.
func TestI1ThreadsByHand(t *testing.T) {
	for _, x := range []struct {
		s    api.Sett
		want []int
	}{
		{over(stripe(0, 1)), []int{0}},
		{over(stripe(61, 3)), []int{61, 61, 61}},
		{over(stripe(a, 2), stripe(b, 1)), []int{a, a, b}},
		{over(stripe(a, 2), stripe(b, 1), stripe(c, 3)), []int{a, a, b, c, c, c}},
		{over(stripe(a, 1), stripe(a, 2), stripe(0, 1)), []int{a, a, a, 0}},
		{over(stripe(a, 1), stripe(b, 1), stripe(a, 1)), []int{a, b, a}},
		{back(stripe(0, 1), stripe(61, 1)), []int{0, 61}},
		{back(stripe(a, 1), stripe(b, 3)), []int{a, b, b, b}},
		{back(stripe(a, 1), stripe(b, 2), stripe(c, 1)), []int{a, b, b, c, b, b}},
		{back(stripe(a, 1), stripe(b, 2), stripe(c, 3), stripe(d, 4)), []int{a, b, b, c, c, c, d, d, d, d, c, c, c, b, b}},
		{back(stripe(a, 2), stripe(b, 1), stripe(c, 1), stripe(b, 1), stripe(d, 2)), []int{a, a, b, c, b, d, d, b, c, b}},
		{back(stripe(a, 1), stripe(a, 2)), []int{a, a, a}},
		{back(stripe(a, 1), stripe(a, 2), stripe(a, 3)), []int{a, a, a, a, a, a, a, a}},
		{back(stripe(a, 1), stripe(b, 1), stripe(a, 1)), []int{a, b, a, b}},
		{back(stripe(a, 1), stripe(b, 1), stripe(b, 2), stripe(c, 1)), []int{a, b, b, b, c, b, b, b}},
	} {
		hasThreads(t, x.s, x.want)
	}
}

// TestI1ThreadsOfGreatCounts: where each thread stands, in setts of up to MaxThreads threads.
func TestI1ThreadsOfGreatCounts(t *testing.T) {
	for _, x := range []struct {
		s    api.Sett
		runs []int // a colour, and till which place it goes on, and so on
	}{
		{over(stripe(7, 4096)), []int{7, 4096}},
		{over(stripe(7, 1), stripe(8, 4095)), []int{7, 1, 8, 4096}},
		{over(stripe(7, 4095), stripe(8, 1)), []int{7, 4095, 8, 4096}},
		{over(stripe(7, 2000), stripe(7, 2000), stripe(0, 96)), []int{7, 4000, 0, 4096}},
		{back(stripe(7, 4095), stripe(8, 1)), []int{7, 4095, 8, 4096}},
		{back(stripe(7, 1), stripe(8, 4095)), []int{7, 1, 8, 4096}},
		{back(stripe(7, 1), stripe(8, 2047), stripe(9, 1)), []int{7, 1, 8, 2048, 9, 2049, 8, 4096}},
		{back(stripe(7, 1000), stripe(8, 999), stripe(9, 1098)), []int{7, 1000, 8, 1999, 9, 3097, 8, 4096}},
		{back(stripe(1, 100), stripe(2, 200), stripe(3, 300), stripe(4, 400)), []int{1, 100, 2, 300, 3, 600, 4, 1000, 3, 1300, 2, 1500}},
	} {
		var want []int
		for i := 0; i < len(x.runs); i += 2 {
			want = append(want, slices.Repeat(x.runs[i:i+1], x.runs[i+1]-len(want))...)
		}
		hasThreads(t, x.s, want)
	}
}

// TestI1ThreadsOfManyStripes: MaxStripes of them, one thread each, and sixteen.
func TestI1ThreadsOfManyStripes(t *testing.T) {
	for _, many := range []int{1, 2, 16} {
		var want []int
		for i := range 256 {
			want = append(want, slices.Repeat([]int{i % 62}, many)...)
		}
		hasThreads(t, over(counts(slices.Repeat([]int{many}, 256)...)...), want)
	}
	var want []int
	for i := range 510 {
		want = append(want, min(i, 510-i)%62)
	}
	hasThreads(t, back(narrow(256)...), want)
}

// drawn is a sett without order: of up to so many stripes, of up to so many threads each; one number in some is wrong.
func drawn(seed int) api.Sett {
	next := strew(seed)
	most := []int{3, 12, 60, 258}[next(4)]
	high := []int{1, 3, 40, 4097}[next(4)]
	s := api.Sett{Pivot: next(2) == 0}
	for range next(most + 1) {
		s.Stripes = append(s.Stripes, stripe(next(62), 1+next(high)))
	}
	if n := len(s.Stripes); n > 0 && next(6) == 0 {
		wrong := []api.Stripe{stripe(-1-next(99), 1), stripe(62+next(99), 1), stripe(next(62), -next(99)), stripe(next(62), 4097+next(99))}
		s.Stripes[next(n)] = wrong[next(4)]
	}
	return s
}

// TestI1Drawn: setts without order, held against I1's words.
func TestI1Drawn(t *testing.T) {
	came := map[api.Errno]int{}
	for seed := range 6000 {
		s := drawn(seed)
		want := wrongByWords(s)
		came[want]++
		tells(t, s, want)
		if want == api.OK {
			hasThreads(t, s, comesOnce(s))
		}
	}
	for _, err := range []api.Errno{api.OK, api.ErrMany, api.ErrRange, api.ErrMuch} {
		if came[err] < 200 {
			t.Errorf("%d is drawn only %d times", err, came[err])
		}
	}
}

// TestI1And2ComeBack: threads of a sett are folded to a sett of the same threads; to the same one, if no two stripes side by side have one colour.
func TestI1And2ComeBack(t *testing.T) {
	for seed := range 3000 {
		s := drawn(seed)
		threads, err := sett.Threads(s)
		if err != api.OK {
			continue
		}
		foldsAsWords(t, threads)
		if s.Pivot && unlike(s.Stripes) {
			foldsTo(t, threads, s)
		}
	}
}

// unlike tells whether no two stripes side by side have one colour.
func unlike(l []api.Stripe) bool {
	for i := range len(l) - 1 {
		if l[i].Colour == l[i+1].Colour {
			return false
		}
	}
	return true
}
