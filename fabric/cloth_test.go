package fabric_test

import (
	"fmt"
	"math"
	"slices"
	"testing"

	"tapestry/api"
	"tapestry/fabric"
	"tapestry/knit"
)

// makes: what cloth comes of stitches, as a text in which nil and empty lists are the same.
func makes(t *testing.T, needles int, l []api.Stitch, want string) {
	t.Helper()
	k, fault := fabric.Cloth(needles, l)
	if got := fmt.Sprint(k); got != want || fault != (api.Fault{}) {
		t.Errorf("%d stitches: %s %v comes, not %s", len(l), got, fault, want)
	}
}

// asTold: Cloth is what F1's words make of Run.
func asTold(t *testing.T, needles int, l []api.Stitch) {
	t.Helper()
	k, fault := fabric.Cloth(needles, l)
	want, wantFault := clothByWords(needles, l)
	if !same(k, want) || fault != wantFault {
		t.Fatalf("%d needles, %v: %v %v comes, not %v %v", needles, l, k, fault, want, wantFault)
	}
}

// TestF1Story: several carriers on both beds, each kind of stitch, racks to and fro; with a look behind each stitch.
func TestF1Story(t *testing.T) {
	var l []api.Stitch
	for _, x := range []struct {
		stitch api.Stitch
		want   string
	}{
		{tucks(0, 0, 3), "{[{3 []}] [[0] [] []] [[] [] []] [] 0}"},
		{tucks(1, 0, 7), "{[{3 []} {7 []}] [[0] [] []] [[1] [] []] [] 0}"},
		{tucks(0, 0, 2), "{[{2 []} {3 []} {7 []}] [[1 0] [] []] [[2] [] []] [] 0}"},
		{moves(1, 0), "{[{2 []} {3 []} {7 []}] [[1 0 2] [] []] [[] [] []] [] 0}"},
		{tucks(0, 2, 7), "{[{2 []} {3 []} {7 []} {7 []}] [[1 0 2] [] [3]] [[] [] []] [] 0}"},
		{racks(2), "{[{2 []} {3 []} {7 []} {7 []}] [[1 0 2] [] [3]] [[] [] []] [] 2}"},
		{moves(0, 2), "{[{2 []} {3 []} {7 []} {7 []}] [[1 0 2] [] []] [[3] [] []] [] 2}"},
		{misses(1, 1, 5), "{[{2 []} {3 []} {7 []} {7 []}] [[1 0 2] [] []] [[3] [] []] [] 2}"},
		{racks(0), "{[{2 []} {3 []} {7 []} {7 []}] [[1 0 2] [] []] [[3] [] []] [] 0}"},
		{moves(0, 0), "{[{2 []} {3 []} {7 []} {7 []}] [[] [] []] [[3 1 0 2] [] []] [] 0}"},
		{knits(1, 0, 1), "{[{1 [4 2 1 3]} {2 []} {3 []} {7 []} {7 []}] [[] [] []] [[0] [] []] [] 0}"},
		{racks(-1), "{[{1 [4 2 1 3]} {2 []} {3 []} {7 []} {7 []}] [[] [] []] [[0] [] []] [] -1}"},
		{tucks(1, 2, 0), "{[{0 []} {1 [5 3 2 4]} {2 []} {3 []} {7 []} {7 []}] [[] [] []] [[1] [] [0]] [] -1}"},
		{moves(1, 2), "{[{0 []} {1 [5 3 2 4]} {2 []} {3 []} {7 []} {7 []}] [[] [0] []] [[1] [] []] [] -1}"},
		{tucks(0, 1, 6), "{[{0 []} {1 [6 3 2 5]} {2 []} {3 []} {6 []} {7 []} {7 []}] [[] [0 4] []] [[1] [] []] [] -1}"},
		{drops(0, 1), "{[{0 []} {1 [6 3 2 5]} {2 []} {3 []} {6 []} {7 []} {7 []}] [[] [] []] [[1] [] []] [0 4] -1}"},
		{drops(1, 0), "{[{0 []} {1 [6 3 2 5]} {2 []} {3 []} {6 []} {7 []} {7 []}] [[] [] []] [[] [] []] [0 1 4] -1}"},
		{tucks(0, 2, 3), "{[{0 []} {1 [7 3 2 6]} {2 []} {3 []} {3 []} {6 []} {7 []} {7 []}] [[] [] [4]] [[] [] []] [0 1 5] -1}"},
	} {
		l = append(l, x.stitch)
		makes(t, 3, l, x.want)
	}
}

// TestF1Numbers: carriers in turn, from the least one and from the greatest one on, and of one carrier in the order in which they were made, wherever they are.
func TestF1Numbers(t *testing.T) {
	makes(t, 3, []api.Stitch{tucks(0, 2, 1), tucks(0, 0, 0), tucks(1, 1, 1), tucks(0, 1, 0)},
		"{[{0 []} {0 []} {1 []} {1 []}] [[0] [1] [2]] [[] [3] []] [] 0}")
	var rising, falling []api.Stitch
	for carrier := range api.MaxCarriers {
		rising = append(rising, tucks(1, 0, carrier))
		falling = append(falling, tucks(1, 0, api.MaxCarriers-1-carrier))
	}
	loops := "[{0 []} {1 []} {2 []} {3 []} {4 []} {5 []} {6 []} {7 []}]"
	makes(t, 1, rising, "{"+loops+" [[]] [[0 1 2 3 4 5 6 7]] [] 0}")
	makes(t, 1, falling, "{"+loops+" [[]] [[7 6 5 4 3 2 1 0]] [] 0}")
	drop := drops(1, 0)
	makes(t, 1, append(rising, drop), "{"+loops+" [[]] [[]] [0 1 2 3 4 5 6 7] 0}")
	makes(t, 1, append(falling, drop), "{"+loops+" [[]] [[]] [0 1 2 3 4 5 6 7] 0}")
}

// TestF1Orders: what a loop was pulled through, and what needles hold, in their order and not by numbers; what is loose by numbers and not in its order.
func TestF1Orders(t *testing.T) {
	l := []api.Stitch{tucks(0, 0, 5), tucks(0, 0, 0), tucks(0, 0, 5), tucks(0, 0, 2)}
	makes(t, 2, l, "{[{0 []} {2 []} {5 []} {5 []}] [[2 0 3 1] []] [[] []] [] 0}")
	makes(t, 2, append(slices.Clone(l), moves(0, 0)), "{[{0 []} {2 []} {5 []} {5 []}] [[] []] [[2 0 3 1] []] [] 0}")
	makes(t, 2, append(slices.Clone(l), drops(0, 0)), "{[{0 []} {2 []} {5 []} {5 []}] [[] []] [[] []] [0 1 2 3] 0}")
	makes(t, 2, append(slices.Clone(l), knits(0, 0, 1)), "{[{0 []} {1 [3 0 4 2]} {2 []} {5 []} {5 []}] [[1] []] [[] []] [] 0}")
	l = []api.Stitch{tucks(0, 0, 1), tucks(0, 1, 0), tucks(1, 1, 1), tucks(1, 0, 0), drops(1, 1), drops(0, 0), drops(1, 0), drops(0, 1)}
	makes(t, 2, l[:5], "{[{0 []} {0 []} {1 []} {1 []}] [[2] [0]] [[1] []] [3] 0}")
	makes(t, 2, l[:6], "{[{0 []} {0 []} {1 []} {1 []}] [[] [0]] [[1] []] [2 3] 0}")
	makes(t, 2, l[:7], "{[{0 []} {0 []} {1 []} {1 []}] [[] [0]] [[] []] [1 2 3] 0}")
	makes(t, 2, l, "{[{0 []} {0 []} {1 []} {1 []}] [[] []] [[] []] [0 1 2 3] 0}")
}

// TestF1ThroughLater: along their yarns a loop may have a lesser number than those that it was pulled through, and than one that was pulled through it.
func TestF1ThroughLater(t *testing.T) {
	makes(t, 1, []api.Stitch{tucks(0, 0, 1), knits(0, 0, 0), knits(0, 0, 1), knits(0, 0, 0)},
		"{[{0 [2]} {0 [3]} {1 []} {1 [0]}] [[1]] [[]] [] 0}")
}

// TestF1AsRun: no stitches, one carrier, and stitches that are already numbered so are as Run tells them, but that what is loose is rising.
func TestF1AsRun(t *testing.T) {
	for _, needles := range []int{1, 2, 50, 128} {
		want := fmt.Sprint(api.Knitted{Front: make([][]int, needles), Back: make([][]int, needles)})
		makes(t, needles, nil, want)
		makes(t, needles, []api.Stitch{}, want)
	}
	for seed := range 60 {
		l := strewn(6, 300, strew(seed))
		for i := range l {
			l[i].Carrier = seed % api.MaxCarriers
		}
		sameAsRun(t, 6, done(t, 6, l))
		for i := range l { // the carriers rise, each has many stitches
			l[i].Carrier = i * api.MaxCarriers / len(l)
		}
		sameAsRun(t, 6, done(t, 6, l))
	}
}

func sameAsRun(t *testing.T, needles int, l []api.Stitch) {
	t.Helper()
	want, _ := knit.Run(needles, l)
	slices.Sort(want.Loose)
	if k, fault := fabric.Cloth(needles, l); !same(k, want) || fault != (api.Fault{}) {
		t.Errorf("%v: %v %v comes, not %v", l, k, fault, want)
	}
}

// TestF1Unused: a carrier that makes no loop takes no number, whether it passes by or not.
func TestF1Unused(t *testing.T) {
	makes(t, 1, []api.Stitch{tucks(0, 0, 7), misses(0, 0, 0), misses(1, 0, 4), tucks(1, 0, 3)}, "{[{3 []} {7 []}] [[1]] [[0]] [] 0}")
	makes(t, 1, []api.Stitch{misses(0, 0, 0)}, "{[] [[]] [[]] [] 0}")
}

// TestF1Rack: the rack in the end.
func TestF1Rack(t *testing.T) {
	for to := -api.MaxRack; to <= api.MaxRack; to++ {
		makes(t, 1, []api.Stitch{tucks(0, 0, 1), racks(to), tucks(1, 0, 0)}, fmt.Sprintf("{[{0 []} {1 []}] [[1]] [[0]] [] %d}", to))
	}
}

// TestF1Faults: what Run says, and nothing beside it.
func TestF1Faults(t *testing.T) {
	faults := func(needles int, l []api.Stitch, err api.Errno, at int) {
		t.Helper()
		if k, fault := fabric.Cloth(needles, l); !same(k, api.Knitted{}) || fault != (api.Fault{Err: err, At: at}) {
			t.Errorf("%d needles, %d stitches: %v %v, not %d at %d", needles, len(l), k, fault, err, at)
		}
	}
	for _, needles := range []int{0, -1, 129, 1 << 8, 1<<32 + 2, math.MaxInt, math.MinInt} {
		faults(needles, nil, api.ErrRange, 0)
		faults(needles, []api.Stitch{tucks(0, 0, 0)}, api.ErrRange, 0)
		faults(needles, []api.Stitch{tucks(0, 0, 0), {Do: 9}}, api.ErrRange, 0)
	}
	good := []api.Stitch{tucks(0, 0, 3), tucks(1, 0, 1), moves(1, 0), knits(0, 0, 2), racks(1), misses(1, 1, 0)}
	for at := range len(good) + 1 {
		for _, x := range []struct {
			wrong api.Stitch
			err   api.Errno
		}{
			{api.Stitch{}, api.ErrKind}, {api.Stitch{Do: 7}, api.ErrKind}, {racks(-5), api.ErrRange}, {racks(math.MaxInt), api.ErrRange},
			{tucks(0, 2, 0), api.ErrRange}, {tucks(2, 0, 0), api.ErrRange}, {tucks(0, 0, -1), api.ErrRange}, {misses(0, 1, 8), api.ErrRange},
			{tucks(1, 0, math.MinInt), api.ErrRange}, {knits(0, 1, 0), api.ErrNone}, {drops(1, 1), api.ErrNone},
		} {
			l := slices.Insert(slices.Clone(good), at, x.wrong)
			faults(2, l, x.err, at)
			faults(2, append(l, api.Stitch{Do: 8}), x.err, at)
		}
	}
	faults(1, slices.Repeat([]api.Stitch{tucks(1, 0, 0), tucks(1, 0, 1)}, 20), api.ErrMany, 8)
	faults(1, slices.Repeat([]api.Stitch{misses(0, 0, 0)}, api.MaxStitches+1), api.ErrMuch, api.MaxStitches)
}

// TestF1AllWays: all stitches, one behind the other, of small machines, wrong ones among them.
func TestF1AllWays(t *testing.T) {
	choices := []api.Stitch{{}, racks(1), racks(0), misses(0, 0, 1), tucks(0, 0, 8)}
	for bed := range 2 {
		for needle := range 2 {
			choices = append(choices, knits(bed, needle, 0), tucks(bed, needle, 1), tucks(bed, needle, 0), moves(bed, needle), drops(bed, needle))
		}
	}
	var walk func(needles int, l []api.Stitch, left int)
	walk = func(needles int, l []api.Stitch, left int) {
		asTold(t, needles, l)
		if _, fault := fabric.Cloth(needles, l); left == 0 || fault.Err != api.OK {
			return
		}
		for _, x := range choices {
			walk(needles, append(slices.Clip(l), x), left-1)
		}
	}
	walk(1, nil, 5)
	walk(2, nil, 4)
	walk(2, []api.Stitch{tucks(1, 0, 2), tucks(0, 0, 1), tucks(0, 0, 0), tucks(0, 1, 1), racks(1)}, 3)
}

// TestF1StrewnWays: many stitches without order, that are all done, and of which one is refused.
func TestF1StrewnWays(t *testing.T) {
	for seed := range 300 {
		next := strew(seed)
		needles := 1 + next(9)
		l := strewn(needles, 300, next)
		asTold(t, needles, l)
		l = done(t, needles, l)
		asTold(t, needles, l)
		l = slices.Insert(l, next(len(l)+1), stitch(next(8), next(3), next(needles+1), next(10)-1, next(12)-6))
		asTold(t, needles, l)
	}
}

// TestF1WholeWays: as many stitches as there may be, on many needles; and one more.
func TestF1WholeWays(t *testing.T) {
	for seed, needles := range []int{1, 5, 128} {
		l := done(t, needles, strewn(needles, 5*api.MaxStitches, strew(seed)))
		if len(l) != api.MaxStitches {
			t.Fatalf("%d stitches", len(l))
		}
		asTold(t, needles, l)
		asTold(t, needles, append(l, misses(0, 0, 0)))
	}
}
