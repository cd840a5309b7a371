package lay_test

import (
	"math"
	"slices"
	"testing"

	"tapestry/api"
	"tapestry/lay"
)

// bothTell: Lay tells this error, and Fits too, at any height and with as many points as pieces, or fewer, or more; beside it all else is zero.
func bothTell(t *testing.T, wide int, l []api.Piece, want api.Errno) {
	t.Helper()
	at, high, err := lay.Lay(wide, l)
	if err != want || want != api.OK && (at != nil || high != 0) {
		t.Errorf("Lay of %d pieces %v.. on cloth %d wide: %d points, %d, %d, not %d", len(l), l[:min(5, len(l))], wide, len(at), high, err, want)
	}
	for _, points := range []int{len(l), 0, max(len(l)-1, 0), len(l) + 1} {
		for _, high := range []int{math.MinInt, -1, 0, 3, math.MaxInt} {
			wanted := want
			if want == api.OK && points != len(l) {
				wanted = api.ErrFit
			}
			is, err := lay.Fits(wide, high, l, make([]api.Point, points))
			if err != wanted || wanted != api.OK && is {
				t.Errorf("Fits of %d pieces %v.. at %d points on cloth %d wide, %d high: %v, %d, not %d", len(l), l[:min(5, len(l))], points, wide, high, is, err, wanted)
			}
		}
	}
}

// outside are numbers that are beyond all bounds, at int's own and at those of shorter numbers.
func outside() []int {
	return []int{math.MinInt, math.MinInt + 1, math.MinInt / 2, -1 << 40, -1<<32 + 1, math.MinInt32, -api.MaxCloth, -2, -1, 0,
		api.MaxCloth + 1, api.MaxCloth + 2, 2 * api.MaxCloth, math.MaxInt32, 1<<32 + 1, 1 << 62, math.MaxInt - 1, math.MaxInt}
}

// TestB1WrongWide: wide at its bounds, and beyond them.
func TestB1WrongWide(t *testing.T) {
	for _, l := range [][]api.Piece{nil, {}, {piece(1, 1)}, {piece(1, 1), piece(1, 7)}} {
		for _, wide := range outside() {
			bothTell(t, wide, l, api.ErrRange)
		}
		for _, wide := range []int{1, 2, 3, 1048575, 1048576} {
			bothTell(t, wide, l, api.OK)
		}
		for _, wide := range []int{0, -1, 1048577, math.MinInt, math.MaxInt} {
			bothTell(t, wide, l, api.ErrRange)
		}
	}
}

// TestB1WrongMany: MaxPieces pieces, and more.
func TestB1WrongMany(t *testing.T) {
	for _, wide := range []int{1, 7, api.MaxCloth} {
		for _, many := range []int{0, 1, 2, 255, 256} {
			bothTell(t, wide, slices.Repeat([]api.Piece{piece(1, 1)}, many), api.OK)
		}
		for _, many := range []int{257, 258, 512, 513, 65536, 65792} {
			bothTell(t, wide, slices.Repeat([]api.Piece{piece(1, 1)}, many), api.ErrMany)
		}
	}
}

// amidst are lists of so many small pieces, with this one as the first, in the middle and as the last.
func amidst(many int, p api.Piece) (out [][]api.Piece) {
	for _, at := range []int{0, many / 2, many - 1} {
		l := slices.Repeat([]api.Piece{piece(1, 1)}, many)
		l[at] = p
		out = append(out, l)
	}
	return out
}

// TestB1WrongPiece: how wide and how high a piece may be, at the bounds and beyond, wherever it stands in its list.
func TestB1WrongPiece(t *testing.T) {
	for _, wide := range []int{1, 2, 7, 1048575, 1048576} {
		right := []api.Piece{piece(1, 1), piece(wide, 1), piece(1, 2), piece(1, 1048575), piece(1, 1048576), piece(wide, 1048576)}
		wrong := []api.Piece{{}, piece(wide+1, 1), piece(wide+2, 1), piece(2*wide, 1048577), piece(wide+1, 1048576), piece(wide, 1048577), piece(wide, 0), piece(0, 1048576), piece(-wide, 1), piece(-wide, -1)}
		for _, n := range outside() {
			wrong = append(wrong, piece(n, 1), piece(1, n), piece(n, n), piece(wide, n), piece(n, wide), piece(-1, n), piece(n, -1))
		}
		for _, many := range []int{1, 3, 20, api.MaxPieces} {
			for _, p := range right {
				for _, l := range amidst(many, p) {
					bothTell(t, wide, l, api.OK)
				}
			}
			for _, p := range wrong {
				for _, l := range amidst(many, p) {
					bothTell(t, wide, l, api.ErrRange)
				}
			}
		}
	}
}

// TestB1WrongByOne: all that are small, those too that are out of range.
func TestB1WrongByOne(t *testing.T) {
	for wide := -2; wide <= 6; wide++ {
		for w := -2; w <= 8; w++ {
			for h := -2; h <= 8; h++ {
				want := api.OK
				if wide < 1 || w < 1 || w > wide || h < 1 {
					want = api.ErrRange
				}
				bothTell(t, wide, []api.Piece{piece(w, h)}, want)
				bothTell(t, wide, []api.Piece{piece(1, 1), piece(w, h)}, want)
			}
		}
	}
}

// TestE4FirstErrorOfAll: where several are wrong, B1's order holds: wide, how many, each piece; and last, of Fits, how many points.
func TestE4FirstErrorOfAll(t *testing.T) {
	for _, p := range []api.Piece{piece(1, 1), piece(0, 1), piece(1, 0), piece(-1, 1), piece(8, 1), piece(1, api.MaxCloth+1), piece(math.MinInt, math.MaxInt)} {
		for _, many := range []int{257, 300} {
			for _, l := range append(amidst(many, p), slices.Repeat([]api.Piece{p}, many)) {
				bothTell(t, 7, l, api.ErrMany)
				bothTell(t, 1, l, api.ErrMany)
				for _, wide := range outside() {
					bothTell(t, wide, l, api.ErrRange)
				}
			}
		}
		for _, wide := range outside() {
			bothTell(t, wide, []api.Piece{p}, api.ErrRange)
		}
	}
	bothTell(t, 7, make([]api.Piece, 256), api.ErrRange)
	bothTell(t, 7, make([]api.Piece, 257), api.ErrMany)
	bothTell(t, 0, make([]api.Piece, 257), api.ErrRange)
}

// TestB2WrongAheadOfFit: an error is told though the pieces ahead of the wrong one don't fit, and though they have no points.
func TestB2WrongAheadOfFit(t *testing.T) {
	wrong := []api.Piece{piece(3, 3), piece(3, 3), piece(8, 1)}
	for _, at := range [][]api.Point{nil, {}, {point(0, 0)}, {point(0, 0), point(0, 0), point(0, 0)}, {point(-1, 0), point(0, 0), point(0, 0)}, {point(math.MinInt, math.MaxInt), point(0, 0)}, make([]api.Point, 400)} {
		for _, high := range []int{math.MinInt, 0, 2, 100} {
			if is, err := lay.Fits(7, high, wrong, at); is || err != api.ErrRange {
				t.Errorf("a piece 8 wide on cloth of 7, at %d points, %d high: %v, %d", len(at), high, is, err)
			}
			if is, err := lay.Fits(7, high, wrong[:2], at); len(at) != 2 && (is || err != api.ErrFit) {
				t.Errorf("two pieces at %d points, %d high: %v, %d", len(at), high, is, err)
			}
		}
	}
}
