package twill_test

import (
	"math"
	"slices"
	"testing"

	"tapestry/api"
	"tapestry/twill"
)

// twillTells holds the error against the one that is wanted; beside one all else must be zero.
func twillTells(t *testing.T, runs []int, move int, want api.Errno) {
	t.Helper()
	if m, err := twill.Twill(runs, move); err != want || isZero(m) != (want != api.OK) {
		t.Errorf("the twill of %v by %d: %d wide, %d high, %d, not %d", runs, move, m.Wide, m.High, err, want)
	}
}

// TestW1HowMany: runs are two, four and so on up to MaxRuns, whatever else is wrong.
func TestW1HowMany(t *testing.T) {
	for count := range 40 {
		want := api.ErrMany
		if count >= 2 && count <= 16 && count%2 == 0 {
			want = api.OK
		}
		twillTells(t, slices.Repeat([]int{1}, count), 1, want)
	}
	twillTells(t, nil, 1, api.ErrMany)
	twillTells(t, []int{}, 1, api.ErrMany)
	twillTells(t, make([]int, 0, 2), 1, api.ErrMany)
	for _, count := range []int{0, 1, 3, 5, 15, 17, 18, 19, 20, 32, 64, 65, 1000} {
		for _, run := range []int{math.MinInt, -1, 0, 1, 4, 64, 65, math.MaxInt} {
			for _, move := range []int{math.MinInt, -1, 0, 1, count, math.MaxInt} {
				twillTells(t, slices.Repeat([]int{run}, count), move, api.ErrMany)
			}
		}
	}
}

// TestW1OneRunOutOfRange: one alone that is not from 1 to MaxTruth is found, wherever it stands, whatever the move is and however much
// the others are together.
func TestW1OneRunOutOfRange(t *testing.T) {
	for count := 2; count <= 16; count += 2 {
		for at := range count {
			for _, other := range []int{1, 4, 64} {
				for _, run := range []int{math.MinInt, math.MinInt + 64, -64, -2, -1, 0, 65, 66, 128, 1 << 32, math.MaxInt - 64, math.MaxInt} {
					runs := slices.Repeat([]int{other}, count)
					runs[at] = run
					for _, move := range []int{math.MinInt, -1, 0, 1, 2, 64, 1000} {
						twillTells(t, runs, move, api.ErrRange)
					}
				}
			}
		}
	}
}

// TestW1RunsThatWrapRound: runs out of range whose sum, too, would wrap round or come out right.
func TestW1RunsThatWrapRound(t *testing.T) {
	for _, runs := range [][]int{
		{math.MaxInt, math.MaxInt},
		{math.MinInt, math.MinInt},
		{math.MaxInt, math.MinInt},
		{math.MaxInt, math.MaxInt, 4, 2},
		{1 << 62, 1 << 62, 1 << 62, 1 << 62},
		{-4, 8},
		{8, -4},
		{65, -1},
		{0, 4},
		{4, 0},
		{0, 0},
		{2, 0, 2, 1},
	} {
		twillTells(t, runs, 1, api.ErrRange)
	}
}

// TestW1Together: runs may be together MaxTruth, not one more.
func TestW1Together(t *testing.T) {
	for count := 2; count <= 16; count += 2 {
		for n := 62; n <= 70; n++ {
			want := api.OK
			if n > 64 {
				want = api.ErrMuch
			}
			for seed := range 20 {
				if runs := strewnRuns(count, n, seed); slices.Max(runs) <= 64 {
					twillTells(t, runs, 1, want)
					twillTells(t, runs, 61, want)
				}
			}
		}
	}
	for _, runs := range [][]int{{64, 1}, {1, 64}, {64, 64}, {33, 32}, {40, 25}, {1, 1, 1, 62}, {62, 1, 1, 1}, slices.Repeat([]int{64}, 16), slices.Repeat([]int{5}, 14)} {
		for _, move := range []int{math.MinInt, -1, 0, 1, 2, 63, 64, 65, 128, math.MaxInt} {
			twillTells(t, runs, move, api.ErrMuch) // ahead of a move out of range
		}
	}
}

// TestW1Move: a move is from 1 on below all runs together.
func TestW1Move(t *testing.T) {
	for count := 2; count <= 16; count += 2 {
		for _, n := range []int{count, 17, 20, 63, 64} {
			runs := strewnRuns(count, n, n)
			for move := -130; move <= 130; move++ {
				want := api.OK
				if move < 1 || move >= n {
					want = api.ErrRange
				}
				twillTells(t, runs, move, want)
			}
			for _, move := range []int{math.MinInt, math.MinInt + n, math.MinInt + 1, math.MaxInt - n, math.MaxInt - 1, math.MaxInt, 1 << 32, n<<32 + 1} {
				twillTells(t, runs, move, api.ErrRange)
			}
		}
	}
}

// TestW1WhichIsTold: several errors at once, in the order of the promise.
func TestW1WhichIsTold(t *testing.T) {
	for _, x := range []struct {
		name string
		runs []int
		move int
		want api.Errno
	}{
		{"an odd number, one out of range, too much, a wrong move", []int{64, 0, 64}, 0, api.ErrMany},
		{"an odd number, too much, a wrong move", []int{64, 64, 64}, 0, api.ErrMany},
		{"an odd number, a wrong move", []int{1, 2, 1}, 4, api.ErrMany},
		{"no runs, a wrong move", nil, 0, api.ErrMany},
		{"too many, all out of range, a wrong move", make([]int, 18), 0, api.ErrMany},
		{"too many, too much", slices.Repeat([]int{4}, 18), 1, api.ErrMany},
		{"one out of range, too much, a wrong move", []int{64, 64, 64, 0}, 0, api.ErrRange},
		{"one out of range behind too much", []int{64, 64, 1, -1}, 1, api.ErrRange},
		{"one out of range that is too much itself", []int{65, 1}, 1, api.ErrRange},
		{"one out of range that is too much itself, at the end", []int{1, 65}, 1, api.ErrRange},
		{"too much, a wrong move", []int{40, 25}, 65, api.ErrMuch},
		{"too much, a move below 1", []int{40, 25}, 0, api.ErrMuch},
		{"a wrong move", []int{40, 24}, 64, api.ErrRange},
		{"nothing", []int{40, 24}, 63, api.OK},
	} {
		t.Run(x.name, func(t *testing.T) { twillTells(t, x.runs, x.move, x.want) })
	}
}

// outside are numbers of ends that are not from 1 to MaxTruth.
var outside = []int{math.MinInt, math.MinInt + 1, -65, -64, -5, -1, 0, 65, 66, 67, 101, 128, 1 << 32, 1<<32 + 5, math.MaxInt - 1, math.MaxInt}

func TestW2EndsOutOfRange(t *testing.T) {
	for _, ends := range outside {
		if l, err := twill.Moves(ends); err != api.ErrRange || len(l) != 0 {
			t.Errorf("the moves of %d ends: %v %d", ends, l, err)
		}
		for _, move := range []int{math.MinInt, -1, 0, 1, 2, 3, 5, 62, 63, 64, 65, ends - 2, ends - 1, ends, math.MaxInt} {
			if m, err := twill.Satin(ends, move); err != api.ErrRange || !isZero(m) {
				t.Errorf("the satin of %d ends by %d: %v %d", ends, move, m, err)
			}
		}
	}
}

// TestW2NoSuchMove: a move that is none of Moves is ErrNone, also where a twill could be woven with it.
func TestW2NoSuchMove(t *testing.T) {
	for ends := 1; ends <= 64; ends++ {
		for _, move := range []int{math.MinInt, math.MinInt + 3, -3, -2, -1, 0, 1, ends - 1, ends, ends + 1, ends + 2, 2*ends + 3, 1<<32 + 3, math.MaxInt} {
			satinIsNone(t, ends, move)
		}
	}
	for _, x := range []struct{ ends, move int }{{6, 2}, {6, 3}, {6, 4}, {8, 2}, {8, 4}, {8, 6}, {9, 3}, {9, 6}, {15, 10}, {64, 2}, {64, 62}, {63, 21}, {4, 2}} {
		satinIsNone(t, x.ends, x.move)
	}
}

func satinIsNone(t *testing.T, ends, move int) {
	t.Helper()
	if m, err := twill.Satin(ends, move); err != api.ErrNone || !isZero(m) {
		t.Errorf("the satin of %d ends by %d: %v %d", ends, move, m, err)
	}
}

// TestW3WrongTruths: what is wrong with truths is told, and nothing of whether they are even.
func TestW3WrongTruths(t *testing.T) {
	for _, x := range []struct {
		m    api.Truth
		want api.Errno
	}{
		{api.Truth{Wide: -1}, api.ErrRange},
		{api.Truth{High: -1}, api.ErrRange},
		{api.Truth{Wide: -2, High: -2, Bits: make([]bool, 4)}, api.ErrRange},
		{api.Truth{Wide: 65}, api.ErrRange},
		{api.Truth{High: 65}, api.ErrRange},
		{every(65, 1), api.ErrRange},
		{every(1, 65), api.ErrRange},
		{none(65, 65), api.ErrRange},
		{api.Truth{Wide: 65, High: 1, Bits: make([]bool, 3)}, api.ErrRange}, // ahead of bits that don't fit
		{api.Truth{Wide: math.MinInt, High: 2}, api.ErrRange},
		{api.Truth{Wide: 2, High: math.MaxInt}, api.ErrRange},
		{api.Truth{Wide: math.MaxInt, High: math.MaxInt, Bits: []bool{true}}, api.ErrRange}, // their product wraps round to 1
		{api.Truth{Wide: 1 << 32, High: 1 << 32}, api.ErrRange},
		{api.Truth{Wide: 2, High: 2}, api.ErrFit},
		{api.Truth{Wide: 2, High: 2, Bits: make([]bool, 3, 4)}, api.ErrFit},
		{api.Truth{Wide: 2, High: 2, Bits: make([]bool, 5)}, api.ErrFit},
		{api.Truth{Wide: 2, High: 2, Bits: make([]bool, 6)}, api.ErrFit},
		{api.Truth{Bits: []bool{true}}, api.ErrFit},
		{api.Truth{Wide: 3, Bits: []bool{true}}, api.ErrFit},
		{api.Truth{High: 3, Bits: []bool{true}}, api.ErrFit},
		{api.Truth{Wide: 64, High: 64, Bits: make([]bool, 4095)}, api.ErrFit},
		{api.Truth{Wide: 64, High: 64, Bits: make([]bool, 4097)}, api.ErrFit},
	} {
		if even, err := twill.Even(x.m); even || err != x.want {
			t.Errorf("%d by %d with %d bits: %v %d, not %d", x.m.Wide, x.m.High, len(x.m.Bits), even, err, x.want)
		}
	}
}
