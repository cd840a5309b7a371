package cloth_test

import (
	"math"
	"testing"

	"tapestry/api"
	"tapestry/cloth"
)

// allTell holds the error of each call against the one that is wanted; beside it all else must be zero.
func allTell(t *testing.T, m api.Truth, want api.Errno) {
	t.Helper()
	lifted, errLift := cloth.Lift(m)
	hangs, errHangs := cloth.Hangs(m)
	sheets, errLayers := cloth.Layers(m)
	if errLift != want || errHangs != want || errLayers != want {
		t.Errorf("%d by %d with %d bits: lift %d, hangs %d, layers %d, not %d", m.Wide, m.High, len(m.Bits), errLift, errHangs, errLayers, want)
	}
	if len(lifted) != 0 || hangs || len(sheets) != 0 {
		t.Errorf("%d by %d with %d bits: beside an error %v %v %v", m.Wide, m.High, len(m.Bits), lifted, hangs, sheets)
	}
}

func TestH1WrongTruths(t *testing.T) {
	for _, x := range []struct {
		m    api.Truth
		want api.Errno
	}{
		{api.Truth{Wide: -2, High: -2, Bits: make([]bool, 4)}, api.ErrRange},
		{api.Truth{Wide: -1, High: 2}, api.ErrRange},
		{api.Truth{Wide: 2, High: -1}, api.ErrRange},
		{every(65, 1), api.ErrRange},
		{every(1, 65), api.ErrRange},
		{plainWeave(65, 65), api.ErrRange},
		{plainWeave(65, 64), api.ErrRange},
		{plainWeave(64, 65), api.ErrRange},
		{api.Truth{Wide: math.MinInt, High: 2, Bits: []bool{}}, api.ErrRange},
		{api.Truth{Wide: 2, High: math.MaxInt, Bits: make([]bool, 2)}, api.ErrRange},
		{api.Truth{Wide: math.MaxInt, High: math.MaxInt, Bits: []bool{true}}, api.ErrRange}, // their product wraps round to 1
		{api.Truth{Wide: 2, High: 2, Bits: make([]bool, 1)}, api.ErrFit},
		{api.Truth{Wide: 2, High: 2, Bits: make([]bool, 3, 4)}, api.ErrFit},
		{api.Truth{Wide: 2, High: 2, Bits: make([]bool, 5)}, api.ErrFit},
		{api.Truth{Wide: 2, High: 2, Bits: make([]bool, 6)}, api.ErrFit},
		{api.Truth{Wide: 64, High: 64, Bits: make([]bool, 4095)}, api.ErrFit},
		{api.Truth{Wide: 64, High: 64, Bits: make([]bool, 4097)}, api.ErrFit},
	} {
		allTell(t, x.m, x.want)
	}
}

// TestH1NoBits: truths without bits with which nothing is wrong.
func TestH1NoBits(t *testing.T) {
	for n := range 65 {
		allTell(t, none(n, 0), api.ErrMany)
		allTell(t, none(0, n), api.ErrMany)
		allTell(t, api.Truth{Wide: n}, api.ErrMany)
		allTell(t, api.Truth{High: n}, api.ErrMany)
		allTell(t, api.Truth{High: n, Bits: make([]bool, 0, 64)}, api.ErrMany)
	}
}

// TestH1WhichIsTold: several errors at once, in the order of the promises.
func TestH1WhichIsTold(t *testing.T) {
	for _, x := range []struct {
		name string
		m    api.Truth
		want api.Errno
	}{
		{"out of range, and bits that don't fit", api.Truth{Wide: 65, High: 1, Bits: make([]bool, 3)}, api.ErrRange},
		{"the height out of range, and bits that don't fit", api.Truth{Wide: 1, High: -1, Bits: make([]bool, 3)}, api.ErrRange},
		{"out of range, no bits, which don't fit", api.Truth{Wide: 65, High: 65}, api.ErrRange},
		{"out of range, no bits, which would fit", api.Truth{Wide: 65}, api.ErrRange},
		{"the height out of range, no bits, which would fit", api.Truth{High: 65}, api.ErrRange},
		{"below the range, no bits, which would fit", api.Truth{Wide: -1}, api.ErrRange},
		{"the height below the range, no bits, which would fit", api.Truth{High: -1}, api.ErrRange},
		{"far out of range, no bits, which would fit", api.Truth{Wide: 1 << 32, High: 1 << 32}, api.ErrRange}, // their product wraps round to 0
		{"no bits, which don't fit", api.Truth{Wide: 1, High: 1}, api.ErrFit},
		{"no bits, which don't fit, of the greatest", api.Truth{Wide: 64, High: 64, Bits: []bool{}}, api.ErrFit},
		{"no place for a bit, but one", api.Truth{Bits: []bool{true}}, api.ErrFit},
		{"no row, but a bit", api.Truth{Wide: 4, Bits: []bool{true}}, api.ErrFit},
		{"no column, but a bit", api.Truth{High: 4, Bits: []bool{true}}, api.ErrFit},
		{"no bits", api.Truth{Wide: 64}, api.ErrMany},
		{"nothing at all", api.Truth{}, api.ErrMany},
	} {
		t.Run(x.name, func(t *testing.T) { allTell(t, x.m, x.want) })
	}
}
