package knit_test

import (
	"math"
	"slices"
	"testing"

	"tapestry/api"
	"tapestry/knit"
)

// runs: what Run tells of some stitches.
func runs(t *testing.T, needles int, l []api.Stitch, want api.Knitted, fault api.Fault) {
	t.Helper()
	if k, f := knit.Run(needles, l); f != fault || !same(k, want) {
		t.Errorf("%d needles, %d stitches: %v %v, not %v %v", needles, len(l), k, f, want, fault)
	}
}

// faults: Run tells a fault, and nothing beside it.
func faults(t *testing.T, needles int, l []api.Stitch, err api.Errno, at int) {
	t.Helper()
	runs(t, needles, l, api.Knitted{}, api.Fault{Err: err, At: at})
}

// TestN4Needles: what New says, at 0, whatever the stitches are.
func TestN4Needles(t *testing.T) {
	for _, needles := range []int{0, -1, 129, 1 << 8, 1<<32 + 2, math.MaxInt, math.MinInt} {
		faults(t, needles, nil, api.ErrRange, 0)
		faults(t, needles, []api.Stitch{tucks(0, 0, 0)}, api.ErrRange, 0)
		faults(t, needles, []api.Stitch{tucks(0, 0, 0), {Do: 9}}, api.ErrRange, 0)
		faults(t, needles, []api.Stitch{{Do: 9}}, api.ErrRange, 0)
	}
}

// TestN4NoStitches: the machine as New gives it.
func TestN4NoStitches(t *testing.T) {
	for _, needles := range []int{1, 2, 50, 128} {
		want := api.Knitted{Front: make([][]int, needles), Back: make([][]int, needles)}
		runs(t, needles, nil, want, api.Fault{})
		runs(t, needles, []api.Stitch{}, want, api.Fault{})
	}
}

// TestN4State: the State in the end.
func TestN4State(t *testing.T) {
	runs(t, 1, []api.Stitch{tucks(0, 0, 0), knits(0, 0, 0)}, api.Knitted{
		Loops: []api.Loop{{}, {Through: []int{0}}}, Front: [][]int{{1}}, Back: make([][]int, 1),
	}, api.Fault{})
	runs(t, 2, []api.Stitch{tucks(1, 1, 3), tucks(1, 1, 4), racks(-1), tucks(0, 1, 5), moves(1, 1), drops(0, 1)}, api.Knitted{
		Loops: []api.Loop{{Carrier: 3}, {Carrier: 4}, {Carrier: 5}}, Front: [][]int{{0, 1}, nil}, Back: make([][]int, 2), Loose: []int{2}, Rack: -1,
	}, api.Fault{})
}

// TestN4First: the first stitch that is refused, at its place, whatever comes behind it; nothing beside it.
func TestN4First(t *testing.T) {
	good := []api.Stitch{tucks(0, 0, 0), tucks(1, 0, 1), moves(1, 0), knits(0, 0, 2), racks(1), misses(1, 1, 0)}
	for at := range len(good) + 1 {
		for _, x := range []struct {
			wrong api.Stitch
			err   api.Errno
		}{
			{api.Stitch{}, api.ErrKind},
			{racks(-5), api.ErrRange},
			{tucks(0, 2, 0), api.ErrRange},
			{misses(0, 1, 8), api.ErrRange},
			{knits(0, 1, 0), api.ErrNone},
		} {
			l := slices.Insert(slices.Clone(good), at, x.wrong)
			faults(t, 2, l, x.err, at)
			faults(t, 2, append(l, api.Stitch{Do: 7}, x.wrong), x.err, at)
		}
	}
	faults(t, 1, slices.Repeat([]api.Stitch{tucks(1, 0, 0)}, 20), api.ErrMany, 8)
}

// TestN4Much: MaxStitches are done; the next one is refused, at its place.
func TestN4Much(t *testing.T) {
	want := api.Knitted{Front: make([][]int, 3), Back: make([][]int, 3)}
	full := slices.Repeat([]api.Stitch{misses(1, 2, 7)}, api.MaxStitches)
	runs(t, 3, full, want, api.Fault{})
	faults(t, 3, append(slices.Clone(full), misses(0, 0, 0)), api.ErrMuch, api.MaxStitches)
	faults(t, 3, append(slices.Clone(full), misses(0, 3, 0)), api.ErrMuch, api.MaxStitches)
	faults(t, 3, append(slices.Clone(full), api.Stitch{}), api.ErrKind, api.MaxStitches)
	faults(t, 3, slices.Concat(full, full, full), api.ErrMuch, api.MaxStitches)
	full[api.MaxStitches-1] = moves(0, 0)
	faults(t, 3, full, api.ErrNone, api.MaxStitches-1)
}

// TestN4AsByHand: Run of stitches without order, of those that can be done, and with a wrong one among them.
func TestN4AsByHand(t *testing.T) {
	for seed := range 400 {
		next := strew(seed)
		needles := 1 + next(7)
		l := strewn(needles, next(300), next)
		want, fault := ranByWords(needles, l)
		runs(t, needles, l, want, fault)
		kept := done(needles, l)
		want, fault = ranByWords(needles, kept)
		if fault.Err != api.OK {
			t.Fatal(fault)
		}
		runs(t, needles, kept, want, fault)
	}
}
