package lay_test

import (
	"math"
	"slices"
	"testing"

	"tapestry/api"
	"tapestry/lay"
)

// TestB2FitsNotAPointForEach: one too few, one too many, none at all; though all pieces that have one would fit, or would not.
func TestB2FitsNotAPointForEach(t *testing.T) {
	for many := range 5 {
		for points := range 7 {
			l := slices.Repeat([]api.Piece{piece(1, 1)}, many)
			for _, step := range []int{0, 1, -1, math.MinInt} {
				at := make([]api.Point, points)
				for i := range at {
					at[i] = point(step*i, 0)
				}
				is, err := lay.Fits(9, 9, l, at)
				if points != many && (err != api.ErrFit || is) || points == many && err != api.OK {
					t.Errorf("%d pieces at %d points: %v, %d", many, points, is, err)
				}
			}
		}
	}
	full := slices.Repeat([]api.Piece{piece(1, 1)}, api.MaxPieces)
	for _, points := range []int{0, 1, 255, 257, 512, 70000} {
		if is, err := lay.Fits(9, 9, full, make([]api.Point, points)); is || err != api.ErrFit {
			t.Errorf("MaxPieces pieces at %d points: %v, %d", points, is, err)
		}
	}
}

// TestB2FitsOneKnown: a piece just within, and one place beyond; begun at 0 and below.
func TestB2FitsOneKnown(t *testing.T) {
	for _, x := range []struct {
		name       string
		wide, high int
		p          api.Piece
		at         api.Point
		want       bool
	}{
		{"all of the cloth", 7, 5, piece(7, 5), point(0, 0), true},
		{"one place", 1, 1, piece(1, 1), point(0, 0), true},
		{"in the midst", 7, 5, piece(2, 2), point(3, 1), true},
		{"just within, to the side", 7, 5, piece(3, 2), point(4, 0), true},
		{"beyond, to the side", 7, 5, piece(3, 2), point(5, 0), false},
		{"wide, just within", 7, 5, piece(7, 1), point(0, 4), true},
		{"wide, beyond", 7, 5, piece(7, 1), point(1, 4), false},
		{"just within, up", 7, 5, piece(3, 2), point(0, 3), true},
		{"beyond, up", 7, 5, piece(3, 2), point(0, 4), false},
		{"high, just within", 7, 5, piece(1, 5), point(6, 0), true},
		{"high, beyond", 7, 5, piece(1, 5), point(6, 1), false},
		{"higher than the cloth", 7, 5, piece(1, 6), point(0, 0), false},
		{"far beyond, to the side", 7, 5, piece(1, 1), point(100, 0), false},
		{"just beyond, to the side", 7, 5, piece(1, 1), point(7, 0), false},
		{"just beyond, up", 7, 5, piece(1, 1), point(0, 5), false},
		{"below 0, to the side", 7, 5, piece(3, 2), point(-1, 0), false},
		{"below 0, up", 7, 5, piece(3, 2), point(0, -1), false},
		{"below 0, both ways", 7, 5, piece(3, 2), point(-1, -1), false},
		{"all below 0", 7, 5, piece(3, 2), point(-3, 0), false},
		{"high 0", 7, 0, piece(1, 1), point(0, 0), false},
		{"high 0, begun below", 7, 0, piece(1, 1), point(0, -1), false},
		{"high below 0", 7, -1, piece(1, 1), point(0, 0), false},
		{"high below 0, begun below", 7, -1, piece(1, 1), point(0, -2), false},
		{"high the least int", 7, math.MinInt, piece(1, 1), point(0, 0), false},
		{"high the least int, begun at 1", 7, math.MinInt, piece(1, 1), point(0, 1), false},
		{"high the least int, begun at the greatest", 7, math.MinInt, piece(1, 1), point(0, math.MaxInt), false},
		{"high the least int, begun there", 7, math.MinInt, piece(1, 1), point(0, math.MinInt), false},
		{"high the least int, MaxCloth", 7, math.MinInt, piece(1, api.MaxCloth), point(0, 0), false},
		{"high the greatest int", 7, math.MaxInt, piece(1, 1), point(0, 0), true},
		{"high the greatest int, just within", 7, math.MaxInt, piece(1, 1), point(0, math.MaxInt-1), true},
		{"high the greatest int, beyond", 7, math.MaxInt, piece(1, 1), point(0, math.MaxInt), false},
		{"high the greatest int, MaxCloth just within", 7, math.MaxInt, piece(1, api.MaxCloth), point(0, math.MaxInt-1048576), true},
		{"high the greatest int, MaxCloth beyond", 7, math.MaxInt, piece(1, api.MaxCloth), point(0, math.MaxInt-1048575), false},
		{"as great as can be", api.MaxCloth, api.MaxCloth, piece(api.MaxCloth, api.MaxCloth), point(0, 0), true},
		{"as great as can be, one to the side", api.MaxCloth, api.MaxCloth, piece(api.MaxCloth, api.MaxCloth), point(1, 0), false},
		{"as great as can be, one up", api.MaxCloth, api.MaxCloth, piece(api.MaxCloth, api.MaxCloth), point(0, 1), false},
		{"X the least int", 7, 5, piece(1, 1), point(math.MinInt, 0), false},
		{"X the greatest int", 7, 5, piece(1, 1), point(math.MaxInt, 0), false},
		{"X the greatest int, wide", 7, 5, piece(7, 1), point(math.MaxInt, 0), false},
		{"Y the least int", 7, 5, piece(1, 1), point(0, math.MinInt), false},
		{"Y the greatest int", 7, 5, piece(1, 1), point(0, math.MaxInt), false},
		{"Y the greatest int, high", 7, 5, piece(1, 5), point(0, math.MaxInt), false},
		{"one below the other end", 7, 5, piece(1, 1), point(math.MinInt, math.MaxInt), false},
	} {
		t.Run(x.name, func(t *testing.T) {
			isFit(t, x.wide, x.high, []api.Piece{x.p}, []api.Point{x.at}, x.want)
			if fitsUnbounded(x.wide, x.high, []api.Piece{x.p}, []api.Point{x.at}) != x.want {
				t.Error("the words say otherwise")
			}
		})
	}
}

// TestB2FitsOneEverywhere: each piece at each point of small cloth, and about it.
func TestB2FitsOneEverywhere(t *testing.T) {
	for wide := 1; wide <= 4; wide++ {
		for high := -2; high <= 4; high++ {
			for i := range wide * 5 {
				l := []api.Piece{piece(1+i%wide, 1+i/wide)}
				for x := -6; x <= 6; x++ {
					for y := -6; y <= 6; y++ {
						at := []api.Point{point(x, y)}
						isFit(t, wide, high, l, at, fitsByCount(wide, high, l, at))
					}
				}
			}
		}
	}
}

// TestB2FitsTwoKnown: pieces that touch, and pieces that have a place in common; either one may come first.
func TestB2FitsTwoKnown(t *testing.T) {
	for _, x := range []struct {
		name string
		p, q api.Piece
		a, b api.Point
		want bool
	}{
		{"side by side", piece(3, 4), piece(2, 4), point(0, 0), point(3, 0), true},
		{"side by side, one lower", piece(3, 4), piece(2, 1), point(2, 2), point(5, 4), true},
		{"side by side, one place in common", piece(3, 1), piece(2, 1), point(0, 0), point(2, 0), false},
		{"one on top of the other", piece(3, 4), piece(3, 2), point(1, 0), point(1, 4), true},
		{"one on top of the other, narrower", piece(5, 4), piece(1, 2), point(1, 0), point(3, 4), true},
		{"one on top of the other, one place in common", piece(1, 4), piece(1, 2), point(1, 0), point(1, 3), false},
		{"at a corner, on the right", piece(2, 3), piece(4, 2), point(1, 1), point(3, 4), true},
		{"at a corner, on the left", piece(2, 3), piece(4, 2), point(4, 1), point(0, 4), true},
		{"at a corner, one place in common, on the right", piece(2, 3), piece(4, 2), point(1, 1), point(2, 3), false},
		{"at a corner, one place in common, on the left", piece(2, 3), piece(4, 2), point(4, 1), point(1, 3), false},
		{"a row in common", piece(4, 3), piece(4, 3), point(0, 0), point(0, 2), false},
		{"a column in common", piece(3, 4), piece(3, 4), point(0, 0), point(2, 0), false},
		{"crossed", piece(8, 1), piece(1, 8), point(0, 4), point(4, 0), false},
		{"one within the other", piece(8, 8), piece(2, 2), point(0, 0), point(3, 3), false},
		{"one within the other, at its corner", piece(8, 8), piece(1, 1), point(0, 0), point(7, 7), false},
		{"one beyond that corner", piece(7, 7), piece(1, 1), point(0, 0), point(7, 7), true},
		{"the same at one point", piece(3, 2), piece(3, 2), point(2, 2), point(2, 2), false},
		{"one place twice", piece(1, 1), piece(1, 1), point(5, 5), point(5, 5), false},
		{"far apart", piece(1, 1), piece(1, 1), point(0, 0), point(7, 7), true},
		{"as far to the side, but not up", piece(2, 2), piece(2, 2), point(1, 0), point(1, 6), true},
		{"as far up, but not to the side", piece(2, 2), piece(2, 2), point(0, 1), point(6, 1), true},
		{"apart, but one beyond", piece(2, 2), piece(2, 2), point(0, 1), point(7, 1), false},
	} {
		t.Run(x.name, func(t *testing.T) {
			isFit(t, 8, 8, []api.Piece{x.p, x.q}, []api.Point{x.a, x.b}, x.want)
			isFit(t, 8, 8, []api.Piece{x.q, x.p}, []api.Point{x.b, x.a}, x.want)
			if fitsByCount(8, 8, []api.Piece{x.p, x.q}, []api.Point{x.a, x.b}) != x.want {
				t.Error("the count says otherwise")
			}
		})
	}
}

// TestB2FitsTwoEverywhere: a piece in the midst, and each other one at each point of the cloth.
func TestB2FitsTwoEverywhere(t *testing.T) {
	for i := range 9 {
		for j := range 25 {
			l := []api.Piece{piece(1+i%3, 1+i/3), piece(1+j%5, 1+j/5)}
			for x := -1; x < 9; x++ {
				for y := -1; y < 9; y++ {
					at := []api.Point{point(3, 3), point(x, y)}
					isFit(t, 8, 8, l, at, fitsByCount(8, 8, l, at))
				}
			}
		}
	}
}

// TestB2FitsTwoHigh: far up, where an end that wraps round would lie below all else.
func TestB2FitsTwoHigh(t *testing.T) {
	const most = math.MaxInt
	for _, x := range []struct {
		a, b int
		want bool
	}{
		{most - 8, most - 4, true}, {most - 7, most - 4, false}, {most - 8, most - 5, false}, {0, most - 4, true}, {most - 4, most - 4, false},
		{0, most - 3, false}, {0, most, false}, {most, most, false}, {most, math.MinInt, false}, {0, math.MinInt, false}, {math.MinInt, math.MinInt, false},
	} {
		l := []api.Piece{piece(2, 4), piece(3, 4)}
		isFit(t, 5, most, l, []api.Point{point(0, x.a), point(1, x.b)}, x.want)
		isFit(t, 5, most, l, []api.Point{point(1, x.b), point(0, x.a)}, x.want)
	}
}

// tiles are MaxPieces pieces, each w wide and h high, that cover cloth of 16 by 16 of them.
func tiles(w, h int) (l []api.Piece, at []api.Point) {
	for i := range api.MaxPieces {
		l, at = append(l, piece(w, h)), append(at, point(i%16*w, i/16*h))
	}
	return l, at
}

// TestB2FitsMany: of many that cover the cloth any two at one point are seen, the first and the last one too, and any one that is moved.
func TestB2FitsMany(t *testing.T) {
	l, at := tiles(3, 2)
	isFit(t, 48, 32, l, at, true)
	isFit(t, 49, 32, l, at, true)
	isFit(t, 47, 32, l, at, false)
	isFit(t, 48, 31, l, at, false)
	for i := range l {
		for _, j := range []int{0, 1, 2, 100, 254, 255} {
			if i == j {
				continue
			}
			moved := slices.Clone(at)
			moved[i] = at[j]
			isFit(t, 48, 32, l, moved, false)
		}
		for _, by := range []api.Point{point(1, 0), point(-1, 0), point(0, 1), point(0, -1)} {
			moved := slices.Clone(at)
			moved[i] = point(at[i].X+by.X, at[i].Y+by.Y)
			isFit(t, 48, 32, l, moved, false)
		}
		for _, greater := range []api.Piece{piece(4, 2), piece(3, 3)} {
			others := slices.Clone(l)
			others[i] = greater
			isFit(t, 48, 32, others, at, false)
		}
		for _, less := range []api.Piece{piece(2, 2), piece(3, 1), piece(1, 1)} {
			others := slices.Clone(l)
			others[i] = less
			isFit(t, 48, 32, others, at, true)
		}
	}
	l, at = tiles(api.MaxCloth/16, api.MaxCloth)
	isFit(t, api.MaxCloth, 16*api.MaxCloth, l, at, true)
	isFit(t, api.MaxCloth, 16*api.MaxCloth-1, l, at, false)
}

// TestB2FitsTheFirstAndTheLast: among others that lie apart these two have one place in common.
func TestB2FitsTheFirstAndTheLast(t *testing.T) {
	for _, many := range []int{2, 3, 50, api.MaxPieces} {
		l, at := slices.Repeat([]api.Piece{piece(2, 2)}, many), make([]api.Point, many)
		for i := range at {
			at[i] = point(3*i, 3)
		}
		isFit(t, 3*many, 9, l, at, true)
		at[many-1] = point(1, 4)
		isFit(t, 3*many, 9, l, at, false)
		at[many-1] = point(1, 5)
		isFit(t, 3*many, 9, l, at, true)
		at[many-1] = point(0, 1)
		isFit(t, 3*many, 9, l, at, true)
		at[many-1] = point(0, 2)
		isFit(t, 3*many, 9, l, at, false)
	}
}

// TestB2FitsNone: no pieces and no points lie on any cloth.
func TestB2FitsNone(t *testing.T) {
	for _, wide := range []int{1, 2, api.MaxCloth} {
		for _, high := range []int{math.MinInt, -1, 0, 1, api.MaxCloth, api.MaxCloth + 1, math.MaxInt} {
			for _, l := range [][]api.Piece{nil, {}} {
				for _, at := range [][]api.Point{nil, {}} {
					isFit(t, wide, high, l, at, true)
				}
			}
		}
	}
}

// TestB2FitsByTheCount: drawn lists on small cloth, of which many fit, and many don't.
func TestB2FitsByTheCount(t *testing.T) {
	seen := map[bool]int{}
	for seed := range 20000 {
		wide, high, many := 1+strewn(12, 5*seed), strewn(12, 5*seed+1), 1+strewn(7, 5*seed+2)
		l := strewnPieces(many, min(wide, 1+seed%4), 1+seed/4%4, seed)
		at := make([]api.Point, many)
		for i := range at {
			at[i] = point(strewn(wide+1, 1000*seed+900+i)-strewn(20, seed+i)/19, strewn(high+1, 1000*seed+950+i)-strewn(20, seed-i)/19)
		}
		want := fitsByCount(wide, high, l, at)
		seen[want]++
		isFit(t, wide, high, l, at, want)
		if fitsUnbounded(wide, high, l, at) != want {
			t.Fatalf("%d wide, %d high, %v at %v: two ways to go by the words tell unlike things", wide, high, l, at)
		}
	}
	if seen[true] < 1000 || seen[false] < 1000 {
		t.Errorf("%d fit, %d don't", seen[true], seen[false])
	}
}

// TestB2FitsMovedByTheCount: pieces as Lay lays them, and then one of them moved by one place, or two of them exchanged.
func TestB2FitsMovedByTheCount(t *testing.T) {
	seen := map[bool]int{}
	for seed := range 4000 {
		wide := 1 + strewn(15, 4*seed)
		l := strewnPieces(2+strewn(10, 4*seed+1), 1+strewn(wide, 4*seed+2), 4, seed)
		at, high := laid(t, wide, l)
		isFit(t, wide, high, l, at, fitsByCount(wide, high, l, at))
		i, j := strewn(len(l), seed+7), strewn(len(l), seed+77)
		at[i], at[j] = at[j], at[i]
		if seed%2 == 0 {
			at[i].X += strewn(3, seed+777) - 1
			at[i].Y += strewn(3, seed+7777) - 1
		}
		want := fitsByCount(wide, high, l, at)
		seen[want]++
		isFit(t, wide, high, l, at, want)
	}
	if seen[true] < 300 || seen[false] < 300 {
		t.Errorf("%d fit, %d don't", seen[true], seen[false])
	}
}

// TestB2FitsNothingWraps: points and heights at int's own bounds, and near to them, beside small ones.
func TestB2FitsNothingWraps(t *testing.T) {
	far := []int{math.MinInt, math.MinInt + 1, math.MinInt + api.MaxCloth, -1 << 32, -api.MaxCloth, -1, 0, 1, 2, api.MaxCloth - 1, api.MaxCloth, 1 << 32, 1<<62 + 1, math.MaxInt - api.MaxCloth, math.MaxInt - 2, math.MaxInt - 1, math.MaxInt}
	heights := append([]int{math.MinInt + 2, 3, math.MaxInt - 3}, far...)
	seen := map[bool]int{}
	for _, wide := range []int{1, 3, api.MaxCloth} {
		for _, high := range heights {
			for _, x := range far {
				for _, y := range far {
					for _, p := range []api.Piece{piece(1, 1), piece(wide, 2), piece(1, api.MaxCloth)} {
						one, two := []api.Piece{p}, []api.Piece{piece(1, 1), p}
						isFit(t, wide, high, one, []api.Point{point(x, y)}, fitsUnbounded(wide, high, one, []api.Point{point(x, y)}))
						at := []api.Point{point(0, 0), point(x, y)}
						want := fitsUnbounded(wide, high, two, at)
						seen[want]++
						isFit(t, wide, high, two, at, want)
						isFit(t, wide, high, []api.Piece{p, piece(1, 1)}, []api.Point{at[1], at[0]}, want)
					}
				}
			}
		}
	}
	if seen[true] < 100 || seen[false] < 100 {
		t.Errorf("%d fit, %d don't", seen[true], seen[false])
	}
}
