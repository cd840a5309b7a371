package knit_test

import (
	"math"
	"testing"

	"tapestry/api"
	"tapestry/knit"
)

// odds are numbers of which none is a kind, a bed, a needle, a carrier, or a rack.
func odds() []int {
	return []int{-5, 129, -128, 1 << 8, 1<<8 + 1, 1 << 31, 1<<32 + 1, 1<<32 + 4, -1 << 32, math.MaxInt, math.MaxInt - 1, math.MinInt, math.MinInt + 1, math.MinInt + 4}
}

// begun is a machine of six needles in the midst of its work: front needle 0 holds 1 loop, front needle 1 holds 8, back needle 1 holds 1, back needle 5 holds 1; all others hold none; the rack is 0.
func begun(t *testing.T) *knit.Machine {
	t.Helper()
	m := machine(t, 6)
	does(t, m, tucks(api.Front, 0, 0), tucks(api.Back, 1, 0), tucks(api.Back, 5, 1))
	for range api.MaxHeld {
		does(t, m, tucks(api.Front, 1, 2))
	}
	return m
}

// TestN3Kind: what is no kind, whatever stands beside it.
func TestN3Kind(t *testing.T) {
	m := begun(t)
	for _, do := range append(odds(), 0, -1, 7, 8, 10) {
		refuses(t, m, api.Stitch{Do: do}, api.ErrKind)
		refuses(t, m, api.Stitch{Do: do, Bed: 2, Needle: -1, Carrier: 8, To: 5}, api.ErrKind)
	}
}

// TestN3Rack: racks that there are not.
func TestN3Rack(t *testing.T) {
	m := begun(t)
	for _, to := range append(odds(), 5, 6, -6) {
		refuses(t, m, racks(to), api.ErrRange)
	}
	does(t, m, racks(-4), racks(4), racks(0))
}

// TestN3Needle: beds and needles that there are not, of each kind that names them; ahead of all else that is wrong with it but what is named first.
func TestN3Needle(t *testing.T) {
	m := begun(t)
	for _, do := range []int{api.StitchKnit, api.StitchTuck, api.StitchMiss, api.StitchMove, api.StitchDrop} {
		for _, odd := range append(odds(), -1) {
			for bed := range 2 {
				refuses(t, m, api.Stitch{Do: do, Bed: bed, Needle: odd}, api.ErrRange)
				refuses(t, m, api.Stitch{Do: do, Bed: bed, Needle: 6}, api.ErrRange)
			}
			refuses(t, m, api.Stitch{Do: do, Bed: odd}, api.ErrRange)
			refuses(t, m, api.Stitch{Do: do, Bed: 2}, api.ErrRange)
			refuses(t, m, api.Stitch{Do: do, Bed: odd, Needle: odd}, api.ErrRange)
		}
	}
}

// TestN3Carrier: carriers that there are not, on needles that hold loops, none, and all that they may.
func TestN3Carrier(t *testing.T) {
	m := begun(t)
	for _, do := range []int{api.StitchKnit, api.StitchTuck, api.StitchMiss} {
		for _, carrier := range append(odds(), -1, 8, 9) {
			for needle := range 3 {
				refuses(t, m, api.Stitch{Do: do, Needle: needle, Carrier: carrier}, api.ErrRange)
			}
		}
	}
	for _, carrier := range append(odds(), -1, 8, 9) { // these kinds name no carrier
		does(t, m, api.Stitch{Do: api.StitchMove, Bed: api.Back, Needle: 5, Carrier: carrier})
		does(t, m, api.Stitch{Do: api.StitchMove, Needle: 5, Carrier: carrier})
	}
}

// TestN3NoneFaces: a move to where there is no needle, ahead of what the needle holds.
func TestN3NoneFaces(t *testing.T) {
	m := begun(t)
	does(t, m, racks(1))
	refuses(t, m, moves(api.Front, 0), api.ErrRange) // holds one
	refuses(t, m, moves(api.Back, 5), api.ErrRange)  // holds one
	does(t, m, racks(-1))
	refuses(t, m, moves(api.Front, 5), api.ErrRange) // holds none
	refuses(t, m, moves(api.Back, 0), api.ErrRange)  // holds none
	does(t, m, racks(2))
	refuses(t, m, moves(api.Front, 1), api.ErrRange) // holds eight
	refuses(t, m, moves(api.Front, 2), api.ErrNone)
	does(t, m, racks(0), moves(api.Front, 0))
	holds(t, m, api.Back, 0, 0)
}

// TestN3None: a knit, a move and a drop of needles that hold no loop: since ever, or no longer.
func TestN3None(t *testing.T) {
	m := begun(t)
	does(t, m, drops(api.Front, 0), moves(api.Back, 5))
	for _, p := range [][2]int{{0, 0}, {0, 2}, {0, 3}, {0, 4}, {1, 0}, {1, 2}, {1, 3}, {1, 4}, {1, 5}} {
		refuses(t, m, knits(p[0], p[1], 0), api.ErrNone)
		refuses(t, m, moves(p[0], p[1]), api.ErrNone)
		refuses(t, m, drops(p[0], p[1]), api.ErrNone)
		does(t, m, misses(p[0], p[1], 0))
	}
	does(t, m, racks(-1))
	refuses(t, m, moves(api.Back, 2), api.ErrNone) // onto front needle 1, which holds eight
}

// TestN3Many: a tuck and a move by which a needle would hold nine loops; what makes it eight is done, and a knit of eight.
func TestN3Many(t *testing.T) {
	m := begun(t)
	refuses(t, m, tucks(api.Front, 1, 0), api.ErrMany)
	refuses(t, m, moves(api.Back, 1), api.ErrMany)  // one onto eight
	refuses(t, m, moves(api.Front, 1), api.ErrMany) // eight onto one
	does(t, m, misses(api.Front, 1, 0))
	does(t, m, drops(api.Back, 1), moves(api.Front, 1)) // eight onto none
	holds(t, m, api.Back, 1, 3, 4, 5, 6, 7, 8, 9, 10)
	refuses(t, m, tucks(api.Back, 1, 7), api.ErrMany)
	does(t, m, knits(api.Back, 1, 7))
	does(t, m, tucks(api.Back, 1, 7))
	holds(t, m, api.Back, 1, 11, 12)
}

// TestN3ManyMoved: moves of each number of loops onto each number of them.
func TestN3ManyMoved(t *testing.T) {
	for bed := range 2 {
		for here := 1; here <= api.MaxHeld; here++ {
			for there := range api.MaxHeld + 1 {
				m := machine(t, 1)
				for range here {
					does(t, m, tucks(bed, 0, 0))
				}
				for range there {
					does(t, m, tucks(1-bed, 0, 0))
				}
				if here+there > api.MaxHeld {
					refuses(t, m, moves(bed, 0), api.ErrMany)
				} else {
					does(t, m, moves(bed, 0))
				}
			}
		}
	}
}

// TestN3Much: MaxStitches are done, of each kind, and no more; what is refused is none of them.
func TestN3Much(t *testing.T) {
	for _, x := range []struct{ first, over []api.Stitch }{
		{[]api.Stitch{tucks(0, 0, 0)}, []api.Stitch{knits(0, 0, 1)}},
		{nil, []api.Stitch{tucks(0, 0, 0), drops(0, 0)}},
		{nil, []api.Stitch{misses(0, 0, 0)}},
		{[]api.Stitch{tucks(0, 0, 0)}, []api.Stitch{moves(0, 0), moves(1, 0)}},
		{nil, []api.Stitch{racks(1), racks(0)}},
		{[]api.Stitch{racks(0)}, []api.Stitch{racks(0)}},
	} {
		m := machine(t, 1)
		does(t, m, x.first...)
		for i := range api.MaxStitches - len(x.first) {
			for _, y := range []api.Stitch{{Do: 9}, tucks(0, 1, 0), misses(0, 0, 8), racks(5), knits(0, -1, 0)} {
				if m.Do(y) == api.OK {
					t.Fatalf("%v is done", y)
				}
			}
			does(t, m, x.over[i%len(x.over)])
		}
		for _, y := range []api.Stitch{knits(0, 0, 0), tucks(0, 0, 0), misses(0, 0, 0), moves(0, 0), drops(0, 0), racks(0), racks(1), racks(9), tucks(2, 0, 0), tucks(0, 0, 8), knits(1, 0, 0)} {
			refuses(t, m, y, api.ErrMuch)
			refuses(t, m, api.Stitch{Do: 7}, api.ErrKind)
		}
	}
}

// TestN3GoesOn: a machine does what comes behind a stitch that it has refused as if that had never been.
func TestN3GoesOn(t *testing.T) {
	l := strewn(5, 400, strew(3))
	kept := done(5, l)
	if len(kept) == len(l) || len(kept) < 200 {
		t.Fatalf("%d of %d are done", len(kept), len(l))
	}
	m, other := machine(t, 5), machine(t, 5)
	for _, x := range l {
		m.Do(x)
	}
	does(t, other, kept...)
	if k, want := m.State(), other.State(); !same(k, want) {
		t.Errorf("%v comes, not %v", k, want)
	}
}
