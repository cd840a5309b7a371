package fabric_test

import (
	"slices"
	"testing"

	"tapestry/api"
	"tapestry/fabric"
)

// What Cloth, May and Tidy are for: that the cloth is the same, whatever was done first.

// sameCloth: two lists of stitches are both done, and make the same cloth.
func sameCloth(t *testing.T, needles int, l, other []api.Stitch) {
	t.Helper()
	k, fault := fabric.Cloth(needles, l)
	again, otherFault := fabric.Cloth(needles, other)
	if fault.Err != api.OK || otherFault.Err != api.OK || !same(k, again) {
		t.Fatalf("%v: %v %v\n%v: %v %v", l, k, fault, other, again, otherFault)
	}
}

// rackAfter is the rack behind stitches that are done.
func rackAfter(t *testing.T, needles int, l []api.Stitch) int {
	t.Helper()
	k, fault := fabric.Cloth(needles, l)
	if fault.Err != api.OK {
		t.Fatal(fault)
	}
	return k.Rack
}

// TestMayBeExchanged: two stitches, one behind the other, that are done and of which May tells that either may come first, are done the other way round, too, and make the same cloth.
func TestMayBeExchanged(t *testing.T) {
	count := 0
	for seed := range 60 {
		needles := 1 + seed%7
		l := story(t, needles, seed)
		for i := range len(l) - 1 {
			if fabric.May(l[i], l[i+1], rackAfter(t, needles, l[:i])) {
				other := slices.Clone(l)
				other[i], other[i+1] = l[i+1], l[i]
				sameCloth(t, needles, l, other)
				count++
			}
		}
	}
	if count < 3000 {
		t.Errorf("only %d were exchanged", count)
	}
}

// TestMaySort: stitches that are brought into quite another order, by exchanges alone, make the same cloth.
func TestMaySort(t *testing.T) {
	for seed := range 60 {
		needles := 3 + seed%7
		l := story(t, needles, seed)
		other := slices.Clone(l)
		for range 20 {
			rack := 0
			for i := range len(other) - 1 {
				x, y := other[i], other[i+1]
				if x.Do == api.StitchRack {
					rack = x.To
				}
				if x.Bed*1000+x.Needle < y.Bed*1000+y.Needle && fabric.May(x, y, rack) {
					other[i], other[i+1] = y, x
				}
			}
		}
		if slices.Equal(l, other) {
			t.Errorf("seed %d: nothing was exchanged", seed)
		}
		sameCloth(t, needles, l, other)
	}
}

// TestMayNot: of stitches of which May tells false, some make another cloth the other way round, or can't be done.
func TestMayNot(t *testing.T) {
	first := []api.Stitch{tucks(0, 0, 0), tucks(1, 1, 1)}
	for _, x := range []struct {
		x, y api.Stitch
		rack int
	}{
		{tucks(0, 0, 2), tucks(0, 0, 3), 0},
		{tucks(0, 1, 2), tucks(1, 0, 2), 0},
		{tucks(0, 0, 2), knits(0, 0, 3), 0},
		{moves(0, 0), tucks(1, 0, 2), 0},
		{moves(1, 1), tucks(0, 0, 2), -1},
		{moves(1, 1), moves(0, 0), -1},
		{racks(1), moves(1, 1), 0},
	} {
		l := append(slices.Clip(first), racks(x.rack))
		if fabric.May(x.x, x.y, x.rack) {
			t.Errorf("%v and %v at %d may be exchanged", x.x, x.y, x.rack)
		}
		k, fault := fabric.Cloth(2, append(slices.Clip(l), x.x, x.y))
		other, otherFault := fabric.Cloth(2, append(slices.Clip(l), x.y, x.x))
		if same(k, other) && fault == otherFault {
			t.Errorf("%v and %v at %d: %v either way", x.x, x.y, x.rack, k)
		}
	}
}

// TestTidyKeepsCloth: stitches that are done make the same cloth when they are tidy.
func TestTidyKeepsCloth(t *testing.T) {
	for seed := range 200 {
		next := strew(seed)
		needles := 1 + next(6)
		l := strewn(needles, 300, next)
		for i := range l {
			if next(3) == 0 {
				l[i].Do = []int{3, 6}[next(2)]
				l[i].To = next(3) - 1
			}
		}
		l = done(t, needles, l)
		tidy := fabric.Tidy(l)
		if len(tidy) >= len(l) {
			t.Errorf("seed %d: nothing is left out", seed)
		}
		sameCloth(t, needles, l, tidy)
	}
}
