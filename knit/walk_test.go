package knit_test

import (
	"fmt"
	"slices"
	"testing"

	"tapestry/api"
	"tapestry/knit"
)

// pair is a machine, and one by the promises' words, with which the same is done.
type pair struct {
	m     *knit.Machine
	paper machineByWords
}

func newPair(t *testing.T, needles int) *pair {
	t.Helper()
	return &pair{machine(t, needles), machineByWords{needles: needles}}
}

// step does a stitch with both, and tells how they differ then; nothing, if they don't.
func (p *pair) step(x api.Stitch) string {
	want := p.paper.do(x)
	if got := p.m.Do(x); got != want {
		return fmt.Sprintf("%+v: %d, not %d", x, got, want)
	}
	if got, want := p.m.State(), p.paper.state(); !same(got, want) {
		return fmt.Sprintf("behind %+v: %v, not %v", x, got, want)
	}
	return ""
}

// choices are stitches of a small machine, and wrong ones near them.
func choices(needles int) []api.Stitch {
	out := []api.Stitch{{}, {Do: 7}, racks(-5), racks(5), racks(-1), racks(0), racks(1), racks(4), misses(0, 0, 8), tucks(2, 0, 0), tucks(0, 0, -1)}
	for bed := range 2 {
		out = append(out, misses(bed, 0, 0))
		for n := -1; n <= needles; n++ {
			out = append(out, knits(bed, n, 0), tucks(bed, n, 1), moves(bed, n), drops(bed, n))
		}
	}
	return out
}

// walk goes all ways of so many stitches from where a path leads; no way goes on behind a stitch that is refused, as that changes nothing.
func walk(t *testing.T, needles int, path []api.Stitch, left int) {
	for _, x := range choices(needles) {
		p := newPair(t, needles)
		for _, y := range path {
			p.m.Do(y)
			p.paper.do(y)
		}
		refused := p.paper.refused(x) != api.OK
		if how := p.step(x); how != "" {
			t.Fatalf("%d needles, behind %v: %s", needles, path, how)
		}
		if !refused && left > 1 {
			walk(t, needles, append(slices.Clip(path), x), left-1)
		}
	}
}

// TestAllWays: all that can be done with small machines, for some stitches.
func TestAllWays(t *testing.T) {
	walk(t, 1, nil, 5)
	walk(t, 2, nil, 4)
	walk(t, 3, nil, 3)
	walk(t, 2, []api.Stitch{tucks(0, 0, 0), tucks(0, 0, 1), tucks(1, 0, 2), tucks(1, 1, 3), racks(1)}, 3)
	full := slices.Repeat([]api.Stitch{tucks(0, 0, 0), tucks(1, 1, 0)}, 8)
	walk(t, 2, full[:15], 3)
	walk(t, 2, full[:12], 3)
}

// TestStrewnWays: many stitches without order, with a look behind each one.
func TestStrewnWays(t *testing.T) {
	seen := map[api.Errno]int{}
	for seed := range 300 {
		next := strew(seed)
		needles := 1 + next(9)
		p := newPair(t, needles)
		for i, x := range strewn(needles, 150, next) {
			seen[p.paper.refused(x)]++
			if how := p.step(x); how != "" {
				t.Fatalf("seed %d, stitch %d: %s", seed, i, how)
			}
		}
	}
	for _, err := range []api.Errno{api.OK, api.ErrKind, api.ErrRange, api.ErrNone, api.ErrMany} {
		if seen[err] < 100 {
			t.Errorf("%d came %d times", err, seen[err])
		}
	}
}

// TestWholeWays: machines of many needles, till they have done all that they may.
func TestWholeWays(t *testing.T) {
	for seed, needles := range []int{1, 2, 31, 127, 128} {
		p := newPair(t, needles)
		next := strew(seed)
		for left := 200000; p.paper.done < api.MaxStitches && left > 0; left-- {
			x := strewn(needles, 1, next)[0]
			if got, want := p.m.Do(x), p.paper.do(x); got != want {
				t.Fatalf("%d needles, %+v: %d, not %d", needles, x, got, want)
			}
		}
		for _, x := range append(choices(needles), strewn(needles, 100, next)...) {
			if how := p.step(x); how != "" {
				t.Fatalf("%d needles: %s", needles, how)
			}
			if err := p.m.Do(x); err != api.ErrMuch && err != api.ErrKind {
				t.Fatalf("%d needles: %+v behind the last stitch: %d", needles, x, err)
			}
		}
	}
}

// TestNoLoopIsLost: each loop is held by one needle, or is loose, or one loop was pulled through it, which was made later.
func TestNoLoopIsLost(t *testing.T) {
	for seed := range 200 {
		next := strew(seed)
		needles := 1 + next(20)
		k, fault := knit.Run(needles, done(needles, strewn(needles, 500, next)))
		if fault.Err != api.OK {
			t.Fatal(fault)
		}
		all := slices.Concat(slices.Concat(k.Front...), slices.Concat(k.Back...), k.Loose)
		for i, loop := range k.Loops {
			all = append(all, loop.Through...)
			if len(loop.Through) > 0 && slices.Max(loop.Through) >= i {
				t.Errorf("loop %d is through %v", i, loop.Through)
			}
		}
		slices.Sort(all)
		for i, loop := range all {
			if loop != i || len(all) != len(k.Loops) {
				t.Fatalf("seed %d: %d loops, and there are %v", seed, len(k.Loops), all)
			}
		}
	}
}
