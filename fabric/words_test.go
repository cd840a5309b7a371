package fabric_test

import (
	"slices"
	"testing"

	"tapestry/api"
	"tapestry/knit"
)

// What the promises say, in their own words, and stitches to hold them against.

// numberByWords is F1: how many loops are of a lesser carrier, or of the same one and were made ahead of this one.
func numberByWords(loops []api.Loop, loop int) int {
	ahead := 0
	for i, other := range loops {
		if other.Carrier < loops[loop].Carrier || other.Carrier == loops[loop].Carrier && i < loop {
			ahead++
		}
	}
	return ahead
}

// clothByWords is F1, with new lists all through.
func clothByWords(needles int, l []api.Stitch) (api.Knitted, api.Fault) {
	k, fault := knit.Run(needles, l)
	var numbers []int
	for i := range k.Loops {
		numbers = append(numbers, numberByWords(k.Loops, i))
	}
	all := func(list []int) []int {
		var out []int
		for _, loop := range list {
			out = append(out, numbers[loop])
		}
		return out
	}
	cloth := api.Knitted{Rack: k.Rack, Loose: slices.Sorted(slices.Values(all(k.Loose)))}
	for i := range k.Loops {
		loop := k.Loops[slices.Index(numbers, i)]
		cloth.Loops = append(cloth.Loops, api.Loop{Carrier: loop.Carrier, Through: all(loop.Through)})
	}
	for i := range k.Front {
		cloth.Front = append(cloth.Front, all(k.Front[i]))
		cloth.Back = append(cloth.Back, all(k.Back[i]))
	}
	return cloth, fault
}

// hasToDo is F2: whether a stitch has to do with a needle. That a front needle n faces the back needle n - rack is asked as: their difference is the rack.
func hasToDo(x api.Stitch, bed, needle, rack int) bool {
	switch {
	case x.Do == 3:
		return false
	case bed == x.Bed && needle == x.Needle:
		return true
	case x.Do != 4:
		return false
	case x.Bed == api.Front:
		return bed == api.Back && x.Needle-needle == rack
	}
	return bed == api.Front && needle-x.Needle == rack
}

// mayByWords is F2. A needle with which both have to do can be no other than these.
func mayByWords(x, y api.Stitch, rack int) bool {
	if x.Do == 6 || y.Do == 6 {
		return false
	}
	loops := []int{1, 2}
	if slices.Contains(loops, x.Do) && slices.Contains(loops, y.Do) && x.Carrier == y.Carrier {
		return false
	}
	for _, bed := range []int{x.Bed, y.Bed, 0, 1} {
		for _, needle := range []int{x.Needle, y.Needle, x.Needle - rack, x.Needle + rack, y.Needle - rack, y.Needle + rack} {
			if hasToDo(x, bed, needle, rack) && hasToDo(y, bed, needle, rack) {
				return false
			}
		}
	}
	return true
}

// tidyByWords is F3, from the end to the beginning: whether a stitch stays hangs on what is behind it first, then on the last rack ahead of it that stays.
func tidyByWords(l []api.Stitch) []api.Stitch {
	var back []api.Stitch // the first two steps, backwards
	for _, x := range slices.Backward(l) {
		isNext := len(back) > 0 && back[len(back)-1].Do == 6
		if x.Do != 3 && !(x.Do == 6 && isNext) {
			back = append(back, x)
		}
	}
	var out []api.Stitch
	for i, x := range slices.Backward(back) {
		if x.Do != 6 || x.To != rackBehind(back[i+1:]) {
			out = append(out, x)
		}
	}
	return out
}

// rackBehind is the rack that there is behind stitches that are told backwards. Those that are left out leave it as it is.
func rackBehind(back []api.Stitch) int {
	for _, x := range back {
		if x.Do == 6 {
			return x.To
		}
	}
	return 0
}

// same: nil and empty lists are (E3).
func same(x, y api.Knitted) bool {
	return slices.EqualFunc(x.Loops, y.Loops, sameLoop) && slices.EqualFunc(x.Front, y.Front, slices.Equal) &&
		slices.EqualFunc(x.Back, y.Back, slices.Equal) && slices.Equal(x.Loose, y.Loose) && x.Rack == y.Rack
}

func sameLoop(x, y api.Loop) bool {
	return x.Carrier == y.Carrier && slices.Equal(x.Through, y.Through)
}

// Stitches, shorter.

func stitch(do, bed, needle, carrier, to int) api.Stitch {
	return api.Stitch{Do: do, Bed: bed, Needle: needle, Carrier: carrier, To: to}
}

func knits(bed, needle, carrier int) api.Stitch  { return stitch(1, bed, needle, carrier, 0) }
func tucks(bed, needle, carrier int) api.Stitch  { return stitch(2, bed, needle, carrier, 0) }
func misses(bed, needle, carrier int) api.Stitch { return stitch(3, bed, needle, carrier, 0) }
func moves(bed, needle int) api.Stitch           { return stitch(4, bed, needle, 0, 0) }
func drops(bed, needle int) api.Stitch           { return stitch(5, bed, needle, 0, 0) }
func racks(to int) api.Stitch                    { return stitch(6, 0, 0, 0, to) }

// strew makes numbers without order; each seed makes others.
func strew(seed int) func(below int) int {
	s := uint32(seed)*2654435761 + 98765
	return func(below int) int {
		s = s*1664525 + 1013904223
		return int(s>>16) % below
	}
}

// strewn are stitches without order that are all right by themselves, tucks more often than others, so that needles hold loops.
func strewn(needles, count int, next func(int) int) []api.Stitch {
	kinds := []int{1, 1, 2, 2, 2, 2, 3, 4, 4, 5, 6}
	var out []api.Stitch
	for range count {
		out = append(out, stitch(kinds[next(len(kinds))], next(2), next(needles), next(8), next(9)-4))
	}
	return out
}

// done are those of some stitches that a machine does, one behind the other.
func done(t *testing.T, needles int, l []api.Stitch) []api.Stitch {
	t.Helper()
	m, err := knit.New(needles)
	if err != api.OK {
		t.Fatal(err)
	}
	var out []api.Stitch
	for _, x := range l {
		if m.Do(x) == api.OK {
			out = append(out, x)
		}
	}
	return out
}

// story are stitches of each kind that a machine of so many needles does.
func story(t *testing.T, needles, seed int) []api.Stitch {
	t.Helper()
	return done(t, needles, strewn(needles, 400, strew(seed)))
}
