package fabric_test

import (
	"math"
	"testing"

	"tapestry/api"
	"tapestry/fabric"
)

// may: what May tells, whichever of the two is named first.
func may(t *testing.T, x, y api.Stitch, rack int, want bool) {
	t.Helper()
	if fabric.May(x, y, rack) != want || fabric.May(y, x, rack) != want {
		t.Errorf("%v and %v at %d: %v %v, not %v", x, y, rack, fabric.May(x, y, rack), fabric.May(y, x, rack), want)
	}
}

// odds are numbers at which much could go wrong.
func odds() []int {
	return []int{-1, 2, 7, 128, 129, 1 << 31, 1 << 32, -1 << 32, math.MaxInt, math.MaxInt - 1, math.MinInt, math.MinInt + 1}
}

// TestF2Example: two tucks on unlike needles by unlike carriers may be exchanged.
func TestF2Example(t *testing.T) {
	may(t, tucks(0, 0, 0), tucks(0, 1, 1), 0, true)
	may(t, tucks(0, 0, 0), tucks(0, 1, 0), 0, false)
	may(t, tucks(0, 0, 0), tucks(0, 0, 1), 0, false)
}

// TestF2Kinds: each kind with each kind, by unlike carriers, of the same needle, and of needles that neither are nor face the same one.
func TestF2Kinds(t *testing.T) {
	for x := 1; x <= 6; x++ {
		for y := 1; y <= 6; y++ {
			rack := x == api.StitchRack || y == api.StitchRack
			miss := x == api.StitchMiss || y == api.StitchMiss
			for bed := range 2 {
				may(t, stitch(x, bed, 3, 0, 0), stitch(y, bed, 3, 1, 0), 0, !rack && miss)
				may(t, stitch(x, bed, 3, 0, 0), stitch(y, bed, 9, 1, 0), 0, !rack)
				may(t, stitch(x, bed, 3, 0, 0), stitch(y, 1-bed, 9, 1, 0), 0, !rack)
			}
		}
	}
}

// TestF2Carriers: the same carrier keeps two stitches in their order that both make loops, and no others.
func TestF2Carriers(t *testing.T) {
	for x := 1; x <= 5; x++ {
		for y := 1; y <= 5; y++ {
			loops := x <= api.StitchTuck && y <= api.StitchTuck
			for _, carrier := range append(odds(), 0, 1, 8) {
				may(t, stitch(x, 0, 3, carrier, 0), stitch(y, 1, 9, carrier, 0), 0, !loops)
				may(t, stitch(x, 0, 3, carrier, 0), stitch(y, 1, 9, carrier^1, 0), 0, true)
				may(t, stitch(x, 0, 3, carrier, 0), stitch(y, 0, 9, carrier^1<<32, 0), 0, true)
			}
		}
	}
}

// TestF2Faces: a move and a stitch of the needle that faces the move's, and of those beside it; at racks below 0, 0 and above 0.
func TestF2Faces(t *testing.T) {
	for rack := -7; rack <= 7; rack++ {
		for _, do := range []int{1, 2, 4, 5} {
			for place := -3; place <= 30; place++ {
				may(t, moves(0, 12), stitch(do, 1, place, 0, 0), rack, place != 12-rack)
				may(t, moves(1, 12), stitch(do, 0, place, 0, 0), rack, place != 12+rack)
				if do != api.StitchMove {
					may(t, moves(0, 12), stitch(do, 0, place, 0, 0), rack, place != 12)
					may(t, moves(1, 12), stitch(do, 1, place, 0, 0), rack, place != 12)
				}
			}
			may(t, moves(0, 12), misses(1, 12-rack, 0), rack, true)
		}
	}
}

// TestF2TwoMoves: of the same bed they meet only if they are of the same needle, as they go to as many needles; of unlike beds only if they are there and back.
func TestF2TwoMoves(t *testing.T) {
	for rack := -4; rack <= 4; rack++ {
		for place := range 25 {
			may(t, moves(0, 12), moves(0, place), rack, place != 12)
			may(t, moves(1, 12), moves(1, place), rack, place != 12)
			may(t, moves(0, 12), moves(1, place), rack, place != 12-rack)
		}
	}
}

// TestF2Miss: it has to do with no needle, and its carrier says nothing; two of them too.
func TestF2Miss(t *testing.T) {
	for do := -1; do <= 8; do++ {
		for carrier := range 3 {
			may(t, misses(0, 3, 1), stitch(do, 0, 3, carrier, 0), 0, do != api.StitchRack)
		}
	}
	may(t, misses(0, 3, 1), misses(0, 3, 1), 0, true)
	may(t, misses(0, 3, 1), racks(0), 0, false)
	may(t, misses(math.MinInt, math.MaxInt, -1), misses(math.MinInt, math.MaxInt, -1), math.MinInt, true)
}

// TestF2Rack: nothing may be exchanged with it, wherever it says that it is, and whatever is wrong.
func TestF2Rack(t *testing.T) {
	for do := -1; do <= 8; do++ {
		for _, odd := range append(odds(), 0, 1) {
			may(t, stitch(6, odd, odd, odd, odd), stitch(do, 0, 40, 5, 0), 0, false)
			may(t, racks(0), stitch(do, odd, odd, odd, odd), odd, false)
		}
	}
}

// TestF2NoKind: what is no kind has to do with its needle, and with no other; it makes no loop.
func TestF2NoKind(t *testing.T) {
	for _, do := range append(odds()[2:], 0, -1, 8, 9, 10, 1<<32+1, 1<<32+3, 1<<32+4, 1<<32+6) {
		for other := 1; other <= 5; other++ {
			may(t, stitch(do, 0, 3, 0, 0), stitch(other, 0, 3, 0, 0), 1, other == api.StitchMiss)
			may(t, stitch(do, 0, 3, 0, 0), stitch(other, 0, 9, 0, 0), 1, true)
			may(t, stitch(do, 0, 3, 0, 0), stitch(other, 1, 2, 0, 0), 1, other != api.StitchMove)
			may(t, stitch(do, 0, 2, 0, 0), stitch(other, 1, 3, 0, 0), 1, true)
		}
		may(t, stitch(do, 0, 3, 0, 0), stitch(do, 0, 3, 1, 0), 1, false)
		may(t, stitch(do, 0, 3, 0, 0), stitch(do, 0, 2, 0, 0), 1, true)
	}
}

// TestF2NoBed: a needle of a bed that is none is one of its own; a move there goes to the front needle that would face a back needle.
func TestF2NoBed(t *testing.T) {
	for _, bed := range odds() {
		for rack := -2; rack <= 2; rack++ {
			for place := range 12 {
				may(t, moves(bed, 6), drops(0, place), rack, place != 6+rack)
				may(t, moves(bed, 6), drops(1, place), rack, true)
				may(t, moves(bed, 6), drops(bed, place), rack, place != 6)
				may(t, moves(bed, 6), drops(bed^1<<20, place), rack, true)
				may(t, moves(bed, 6), moves(bed^1<<20, place), rack, place != 6)
				may(t, moves(bed, 6), moves(1, place), rack, place != 6)
				may(t, moves(bed, 6), moves(0, place), rack, place != 6+rack)
				may(t, drops(bed, 6), drops(bed, place), rack, place != 6)
				may(t, drops(bed, 6), drops(0, place), rack, true)
				may(t, drops(bed, 6), moves(1, place), rack, true)
			}
		}
	}
}

// TestF2WrapsRound: what is too great for a number, of needles and of racks.
func TestF2WrapsRound(t *testing.T) {
	for _, x := range []struct{ bed, place, rack, faces int }{
		{0, math.MinInt, 1, math.MaxInt},
		{0, math.MaxInt, -1, math.MinInt},
		{1, math.MaxInt, 1, math.MinInt},
		{1, math.MinInt, -1, math.MaxInt},
		{0, 0, math.MinInt, math.MinInt},
		{1, 0, math.MinInt, math.MinInt},
		{0, -1, math.MinInt, math.MaxInt},
		{1, -1, math.MinInt, math.MaxInt},
		{0, -2, math.MaxInt, math.MaxInt},
		{1, 2, math.MaxInt, math.MinInt + 1},
		{0, math.MinInt, math.MinInt, 0},
		{1, math.MinInt, math.MinInt, 0},
		{0, math.MaxInt, math.MaxInt, 0},
		{1, math.MaxInt, math.MaxInt, -2},
		{0, math.MaxInt, math.MinInt, -1},
		{9, math.MaxInt, 1, math.MinInt},
		{-1, math.MaxInt, math.MaxInt, -2},
		{math.MinInt, math.MinInt, math.MinInt, 0},
	} {
		other := api.Front
		if x.bed == api.Front {
			other = api.Back
		}
		may(t, moves(x.bed, x.place), drops(other, x.faces), x.rack, false)
		may(t, moves(x.bed, x.place), drops(other, x.faces-1), x.rack, true)
		may(t, moves(x.bed, x.place), drops(other, x.faces+1), x.rack, true)
		may(t, moves(x.bed, x.place), drops(1-other, x.faces), x.rack, 1-other != x.bed || x.faces != x.place)
	}
}

// TestF2NotNamed: what a kind does not name says nothing: where a stitch would rack to, and who moves or drops.
func TestF2NotNamed(t *testing.T) {
	for _, odd := range odds() {
		for do := 1; do <= 5; do++ {
			for place := range 5 {
				x, y := stitch(do, 0, 2, 0, 0), stitch(api.StitchMove, 1, place, 0, 0)
				want := fabric.May(x, y, 1)
				x.To, y.To, y.Carrier = odd, odd, odd
				may(t, x, y, 1, want)
			}
		}
	}
}

// TestF2AllSmall: all stitches near to one another, wrong ones among them.
func TestF2AllSmall(t *testing.T) {
	var all []api.Stitch
	for do := range 8 {
		for bed := -1; bed <= 2; bed++ {
			for place := -2; place <= 2; place++ {
				for carrier := range 2 {
					all = append(all, stitch(do, bed, place, carrier, 0))
				}
			}
		}
	}
	asTheWords(t, all, []int{-4, -1, 0, 1, 2})
}

// TestF2AllOdd: stitches all of whose numbers are odd ones.
func TestF2AllOdd(t *testing.T) {
	var all []api.Stitch
	for _, do := range []int{1, 4, 5, math.MaxInt} {
		for _, bed := range []int{0, 1, 2, math.MinInt, math.MaxInt} {
			for _, place := range append(odds(), 0, 1) {
				all = append(all, stitch(do, bed, place, place, 0))
			}
		}
	}
	asTheWords(t, all, append(odds(), 0, 1))
}

func asTheWords(t *testing.T, all []api.Stitch, at []int) {
	t.Helper()
	count := [2]int{}
	for _, rack := range at {
		for _, x := range all {
			for _, y := range all {
				want := mayByWords(x, y, rack)
				if fabric.May(x, y, rack) != want {
					t.Fatalf("%v and %v at %d: not %v", x, y, rack, want)
				}
				if want {
					count[1]++
				} else {
					count[0]++
				}
			}
		}
	}
	if count[0] < 1000 || count[1] < 1000 {
		t.Errorf("too few of a kind: %v", count)
	}
}
