package knit_test

import (
	"math"
	"testing"

	"tapestry/api"
	"tapestry/knit"
)

// TestN1New: a machine of each number of needles that there may be has two empty beds of so many, and the rack is 0.
func TestN1New(t *testing.T) {
	for needles := 1; needles <= api.MaxNeedles; needles++ {
		k := machine(t, needles).State()
		if len(k.Front) != needles || len(k.Back) != needles {
			t.Errorf("%d needles: beds of %d and %d", needles, len(k.Front), len(k.Back))
		}
		want := api.Knitted{Front: make([][]int, needles), Back: make([][]int, needles)}
		if !same(k, want) {
			t.Errorf("%d needles: %v", needles, k)
		}
	}
}

// TestN1Wrong: numbers of needles that there can't be.
func TestN1Wrong(t *testing.T) {
	for _, needles := range []int{0, -1, -2, -128, 129, 130, 1 << 8, 1<<8 + 1, 1<<32 + 4, math.MaxInt, math.MinInt} {
		if m, err := knit.New(needles); m != nil || err != api.ErrRange {
			t.Errorf("%d needles: %v %d", needles, m, err)
		}
	}
}

// TestN1Needles: needles are from 0 on below how many there are, on both beds.
func TestN1Needles(t *testing.T) {
	for _, needles := range []int{1, 2, 7, 127, 128} {
		m := machine(t, needles)
		for bed := range 2 {
			for n := range needles {
				does(t, m, tucks(bed, n, 0))
				holds(t, m, bed, n, bed*needles+n)
			}
			refuses(t, m, tucks(bed, needles, 0), api.ErrRange)
			refuses(t, m, tucks(bed, -1, 0), api.ErrRange)
		}
	}
}

// TestN1Facing: at each rack, from each needle of each bed, a move goes to the needle that faces it, or, as none does, nowhere; and that one faces back.
func TestN1Facing(t *testing.T) {
	for _, needles := range []int{1, 2, 3, 4, 5, 6, 9, 128} {
		for rack := -api.MaxRack; rack <= api.MaxRack; rack++ {
			for n := range needles {
				facing(t, needles, rack, api.Front, n, n-rack)
				facing(t, needles, rack, api.Back, n, n+rack)
			}
		}
	}
}

func facing(t *testing.T, needles, rack, bed, needle, faces int) {
	t.Helper()
	m := machine(t, needles)
	does(t, m, tucks(bed, needle, 3), racks(rack))
	if faces < 0 || faces >= needles {
		refuses(t, m, moves(bed, needle), api.ErrRange)
		holds(t, m, bed, needle, 0)
		return
	}
	does(t, m, moves(bed, needle))
	holds(t, m, bed, needle)
	holds(t, m, 1-bed, faces, 0)
	does(t, m, moves(1-bed, faces))
	holds(t, m, bed, needle, 0)
	holds(t, m, 1-bed, faces)
}

// TestN1FacingBySigns: which way the rack goes, written down.
func TestN1FacingBySigns(t *testing.T) {
	for _, x := range []struct{ rack, bed, from, to int }{
		{0, api.Front, 2, 2}, {0, api.Back, 2, 2},
		{1, api.Front, 2, 1}, {1, api.Back, 2, 3},
		{-1, api.Front, 2, 3}, {-1, api.Back, 2, 1},
		{4, api.Front, 4, 0}, {4, api.Back, 0, 4},
		{-4, api.Front, 0, 4}, {-4, api.Back, 4, 0},
	} {
		m := machine(t, 5)
		does(t, m, tucks(x.bed, x.from, 0), racks(x.rack), moves(x.bed, x.from))
		holds(t, m, 1-x.bed, x.to, 0)
	}
}
