package sett_test

import (
	"math"
	"slices"
	"testing"

	"tapestry/api"
)

// laid are the threads of stripes, one behind the other.
func laid(l ...api.Stripe) []int { return comesOnce(over(l...)) }

// turns are so many threads of two colours, by turns.
func turns(many int) []int {
	var out []int
	for i := range many {
		out = append(out, i%2)
	}
	return out
}

// TestI2WrongColour: one thread that is no colour, wherever it stands, however many threads or runs there are.
func TestI2WrongColour(t *testing.T) {
	lists := [][]int{{1}, {1, 1}, {1, 2, 3}, turns(2), turns(510), turns(511), turns(600), turns(5000), make([]int, 4096), make([]int, 4097), make([]int, 1<<20), laid(counts(4096, 4096, 1)...)}
	for _, l := range lists {
		for _, wrong := range []int{-1, -62, 62, 63, 256, 4096, 1 << 32, -1 << 32, math.MaxInt, math.MinInt} {
			for _, at := range []int{0, len(l) / 2, len(l) - 1} {
				kept := l[at]
				l[at] = wrong
				foldTells(t, l, api.ErrRange)
				l[at] = kept
			}
			foldTells(t, slices.Repeat([]int{wrong}, 3), api.ErrRange)
		}
		for _, right := range []int{0, 61} {
			foldsAsWords(t, append([]int{right}, l...))
			foldsAsWords(t, append(l[:len(l):len(l)], right))
		}
	}
}

// TestI2ByHand: setts written out.
func TestI2ByHand(t *testing.T) {
	for _, x := range []struct {
		name    string
		threads []int
		want    api.Sett
	}{
		{"one thread", []int{5}, over(stripe(5, 1))},
		{"the first colour", []int{0}, over(stripe(0, 1))},
		{"the last colour", []int{61}, over(stripe(61, 1))},
		{"all of one colour", []int{5, 5, 5, 5}, over(stripe(5, 4))},
		{"two runs", []int{a, b}, back(stripe(a, 1), stripe(b, 1))},
		{"two runs, the first one longer", []int{a, a, b}, back(stripe(a, 2), stripe(b, 1))},
		{"two runs, the last one longer", []int{a, b, b, b}, back(stripe(a, 1), stripe(b, 3))},
		{"the end as the beginning", []int{a, b, a}, over(stripe(a, 1), stripe(b, 1), stripe(a, 1))},
		{"the end as the beginning, longer", []int{a, a, b, a}, over(stripe(a, 2), stripe(b, 1), stripe(a, 1))},
		{"three runs, the same from both sides", []int{a, a, b, a, a}, over(stripe(a, 2), stripe(b, 1), stripe(a, 2))},
		{"three runs, as with Pivot but for the end", []int{a, b, c}, over(stripe(a, 1), stripe(b, 1), stripe(c, 1))},
		{"four runs of two colours", []int{a, b, a, b}, back(stripe(a, 1), stripe(b, 1), stripe(a, 1))},
		{"four runs of three colours", []int{a, b, c, b}, back(stripe(a, 1), stripe(b, 1), stripe(c, 1))},
		{"the run in the middle is any", []int{a, b, b, c, c, c, b, b}, back(stripe(a, 1), stripe(b, 2), stripe(c, 3))},
		{"the run in the middle is as the first one", []int{a, b, a, a, b}, back(stripe(a, 1), stripe(b, 1), stripe(a, 2))},
		{"another length", []int{a, b, b, c, b}, over(stripe(a, 1), stripe(b, 2), stripe(c, 1), stripe(b, 1))},
		{"another length at the end", []int{a, b, c, b, b}, over(stripe(a, 1), stripe(b, 1), stripe(c, 1), stripe(b, 2))},
		{"another colour", []int{a, b, c, d}, over(stripe(a, 1), stripe(b, 1), stripe(c, 1), stripe(d, 1))},
		{"four runs, the same from both sides", []int{a, b, c, c, b, a}, over(stripe(a, 1), stripe(b, 1), stripe(c, 2), stripe(b, 1), stripe(a, 1))},
		{"six runs", []int{a, b, c, d, c, b}, back(stripe(a, 1), stripe(b, 1), stripe(c, 1), stripe(d, 1))},
		{"six runs, one another", []int{a, b, c, d, a, b}, over(stripe(a, 1), stripe(b, 1), stripe(c, 1), stripe(d, 1), stripe(a, 1), stripe(b, 1))},
		{"the last colours side by side", []int{60, 61, 61}, back(stripe(60, 1), stripe(61, 2))},
	} {
		t.Run(x.name, func(t *testing.T) {
			foldsTo(t, x.threads, x.want)
			hasThreads(t, x.want, x.threads)
			if by, err := foldByWords(x.threads); err != api.OK || !same(by, x.want) {
				t.Errorf("by the words %v, %d", by, err)
			}
		})
	}
}

// TestI2NoThreads: no runs are no stripes.
func TestI2NoThreads(t *testing.T) {
	for _, l := range [][]int{nil, {}, make([]int, 0, 9), []int{1, 2, 3}[:0]} {
		foldTells(t, l, api.ErrMany)
	}
}

// TestI2OneRunUnlike: threads with Pivot, of as many runs as one likes; with one of them longer, or of another colour, they have none, but where it is the first one or the one in the middle.
func TestI2OneRunUnlike(t *testing.T) {
	for _, n := range []int{2, 4, 6, 8, 30, 256} {
		runs := make([]api.Stripe, n)
		for i := range runs {
			runs[i] = stripe(min(i, n-i)%31, 2+min(i, n-i)%5)
		}
		foldsTo(t, laid(runs...), back(runs[:n/2+1]...))
		for i := range runs {
			for _, other := range []api.Stripe{stripe(40, runs[i].Count), stripe(runs[i].Colour, runs[i].Count+1), stripe(runs[i].Colour, runs[i].Count-1)} {
				changed := slices.Clone(runs)
				changed[i] = other
				want := over(changed...)
				if i == 0 || i == n/2 {
					want = back(changed[:n/2+1]...)
				}
				foldsTo(t, laid(changed...), want)
			}
		}
		odd := append(slices.Clone(runs), stripe(50, 1))
		if n < 256 {
			foldsTo(t, laid(odd...), over(odd...))
		} else {
			foldTells(t, laid(odd...), api.ErrMany)
		}
	}
}

// TestI2ManyRuns: without Pivot all runs count, with it those up to the one in the middle.
func TestI2ManyRuns(t *testing.T) {
	for _, n := range []int{2, 4, 254, 256, 258, 508, 510} {
		l := narrow(0)
		for i := range n/2 + 1 {
			l = append(l, stripe(i%2, 1))
		}
		foldsTo(t, turns(n), back(l...))
	}
	for _, n := range []int{512, 514, 1022, 4096, 1 << 20} {
		foldTells(t, turns(n), api.ErrMany)
	}
	for _, n := range []int{1, 3, 253, 255} {
		l := narrow(0)
		for i := range n {
			l = append(l, stripe(i%2, 1))
		}
		foldsTo(t, turns(n), over(l...))
	}
	for _, n := range []int{257, 259, 509, 511, 513, 4095, 1<<20 + 1} {
		foldTells(t, turns(n), api.ErrMany)
	}
	for _, n := range []int{4, 254, 256} {
		foldsTo(t, laid(narrow(n)...), over(narrow(n)...))
	}
	for _, n := range []int{257, 258, 259, 508, 510, 512} {
		foldTells(t, laid(narrow(n)...), api.ErrMany)
		unlike := turns(n)
		unlike[n-1] = 2
		foldTells(t, unlike, api.ErrMany)
		foldTells(t, append(turns(n), turns(n)[n-1]), api.ErrMany)
	}
}

// TestI2LongRuns: a run above MaxThreads is out of range, more threads in all are too much.
func TestI2LongRuns(t *testing.T) {
	foldsTo(t, make([]int, 4095), over(stripe(0, 4095)))
	foldsTo(t, make([]int, 4096), over(stripe(0, 4096)))
	for _, n := range []int{4097, 4098, 8192, 65536 + 1, 1 << 20} {
		foldTells(t, make([]int, n), api.ErrRange)
		foldTells(t, laid(stripe(3, n), stripe(4, 1)), api.ErrRange)
		foldTells(t, laid(stripe(3, 1), stripe(4, n)), api.ErrRange)
		foldTells(t, laid(stripe(3, 1), stripe(4, n), stripe(3, 1)), api.ErrRange)
		foldTells(t, laid(stripe(3, 1), stripe(4, n), stripe(5, 1), stripe(4, n)), api.ErrRange)
	}
	for _, x := range []struct {
		pivot bool
		just  []int
	}{
		{true, []int{4095, 1}}, {true, []int{1, 4095}}, {true, []int{2048, 2048}}, {true, []int{1, 2047, 1}}, {true, []int{6, 5, 1000, 1030, 7, 6}},
		{false, []int{4000, 95, 1}}, {false, []int{1, 1, 4094}}, {false, []int{1, 2, 3, 4090}}, {false, []int{4092, 1, 1, 2}}, {false, slices.Repeat([]int{16}, 256)},
	} {
		just := api.Sett{Pivot: x.pivot, Stripes: counts(x.just...)}
		foldsTo(t, comesOnce(just), just)
		for i := range just.Stripes {
			just.Stripes[i].Count++
			foldTells(t, comesOnce(just), api.ErrMuch)
			just.Stripes[i].Count--
		}
	}
	foldTells(t, laid(counts(4096, 4096)...), api.ErrMuch)
	foldTells(t, laid(counts(4096, 4096, 4096)...), api.ErrMuch)
	foldTells(t, laid(counts(4096, 1)...), api.ErrMuch)
}

// TestE4FirstErrorOfThreads: of a sett that folding makes the first error is told, too.
func TestE4FirstErrorOfThreads(t *testing.T) {
	foldTells(t, append(turns(257), make([]int, 4097)...), api.ErrMany)
	foldTells(t, append(make([]int, 4097), turns(600)...), api.ErrMany)
	foldTells(t, append(make([]int, 4096), turns(600)...), api.ErrMany)
	foldTells(t, append(make([]int, 4097), slices.Repeat([]int{1}, 4096)...), api.ErrRange)
	foldTells(t, append(slices.Repeat([]int{1}, 4096), make([]int, 4097)...), api.ErrRange)
}

// TestI2AllShort: all short lists of three colours, of two, and of four numbers of which one is no colour.
func TestI2AllShort(t *testing.T) {
	for _, x := range []struct {
		colours []int
		most    int
	}{{[]int{0, 1, 61}, 9}, {[]int{7, 8, 9, 62}, 6}, {[]int{3, 4}, 14}} {
		lists := [][]int{nil}
		for range x.most {
			var longer [][]int
			for _, l := range lists {
				for _, colour := range x.colours {
					longer = append(longer, append(l[:len(l):len(l)], colour))
				}
			}
			for _, l := range longer {
				foldsAsWords(t, l)
			}
			lists = longer
		}
	}
}

// TestI2Drawn: threads without order, there and back and not, right and wrong, held against I2's words.
func TestI2Drawn(t *testing.T) {
	came := map[api.Errno]int{}
	for seed := range 4000 {
		next := strew(seed)
		runs := narrow(0)
		few, size := 2+next(8), []struct{ runs, long int }{{5, 3}, {5, 5000}, {40, 3}, {40, 300}, {300, 1}, {300, 3}, {300, 30}}[next(7)]
		for range 1 + next(size.runs) {
			runs = append(runs, stripe(next(few), 1+next(size.long)))
		}
		threads := laid(runs...)
		if next(3) > 0 && len(runs) > 1 {
			threads = comesOnce(back(runs...))
		}
		if next(3) == 0 {
			threads[next(len(threads))] = next(few)
		}
		if next(12) == 0 {
			threads[next(len(threads))] = []int{-1, 62, 99}[next(3)]
		}
		came[foldsAsWords(t, threads)]++
		if s, err := foldByWords(threads); err == api.OK && s.Pivot {
			came[-1]++
		}
	}
	for _, err := range []api.Errno{-1, api.OK, api.ErrMany, api.ErrRange, api.ErrMuch} {
		if came[err] < 100 {
			t.Errorf("%d is drawn only %d times", err, came[err])
		}
	}
}
