package lay_test

import (
	"slices"
	"testing"

	"tapestry/api"
)

// TestB1Example16: on cloth seven wide pieces of 5 and 2 share a shelf, in either order, and whichever is higher.
func TestB1Example16(t *testing.T) {
	isLaid(t, 7, []api.Piece{piece(5, 4), piece(2, 4)}, []api.Point{point(0, 0), point(5, 0)}, 4)
	isLaid(t, 7, []api.Piece{piece(2, 4), piece(5, 4)}, []api.Point{point(0, 0), point(2, 0)}, 4)
	isLaid(t, 7, []api.Piece{piece(5, 3), piece(2, 9)}, []api.Point{point(2, 0), point(0, 0)}, 9)
	isLaid(t, 7, []api.Piece{piece(5, 9), piece(2, 3)}, []api.Point{point(0, 0), point(5, 0)}, 9)
	isLaid(t, 6, []api.Piece{piece(5, 4), piece(2, 4)}, []api.Point{point(0, 0), point(0, 4)}, 8)
}

// TestB1LayKnown: what was worked out by hand.
func TestB1LayKnown(t *testing.T) {
	for _, x := range []struct {
		name string
		wide int
		l    []api.Piece
		want []api.Point
		high int
	}{
		{"one", 7, []api.Piece{piece(3, 2)}, []api.Point{point(0, 0)}, 2},
		{"one, as wide as wide", 7, []api.Piece{piece(7, 2)}, []api.Point{point(0, 0)}, 2},
		{"one of one place", 1, []api.Piece{piece(1, 1)}, []api.Point{point(0, 0)}, 1},
		{"as high ones in their order", 9, []api.Piece{piece(2, 3), piece(4, 3), piece(1, 3)}, []api.Point{point(0, 0), point(2, 0), point(6, 0)}, 3},
		{"the highest last", 9, []api.Piece{piece(1, 1), piece(2, 2), piece(3, 3)}, []api.Point{point(5, 0), point(3, 0), point(0, 0)}, 3},
		{"the highest in the midst", 5, []api.Piece{piece(3, 2), piece(3, 4), piece(2, 3)}, []api.Point{point(0, 4), point(0, 0), point(3, 0)}, 6},
		{"it just has room", 10, []api.Piece{piece(4, 2), piece(3, 2), piece(3, 2)}, []api.Point{point(0, 0), point(4, 0), point(7, 0)}, 2},
		{"one is lacking", 9, []api.Piece{piece(4, 2), piece(3, 2), piece(3, 2)}, []api.Point{point(0, 0), point(4, 0), point(0, 2)}, 4},
		{"lower ones on a shelf", 9, []api.Piece{piece(3, 7), piece(3, 2), piece(3, 5), piece(1, 1)}, []api.Point{point(0, 0), point(6, 0), point(3, 0), point(0, 7)}, 8},
		{"lower ones on each shelf", 4, []api.Piece{piece(2, 9), piece(2, 8), piece(2, 4), piece(2, 3), piece(2, 2)}, []api.Point{point(0, 0), point(2, 0), point(0, 9), point(2, 9), point(0, 13)}, 15},
		{"room on both shelves: on the last one", 10, []api.Piece{piece(6, 5), piece(6, 4), piece(4, 3)}, []api.Point{point(0, 0), point(0, 5), point(6, 5)}, 9},
		{"room on the first shelf alone: the next one", 10, []api.Piece{piece(6, 5), piece(7, 4), piece(4, 3)}, []api.Point{point(0, 0), point(0, 5), point(0, 9)}, 12},
		{"room on the first shelf alone, for as high ones", 10, []api.Piece{piece(6, 3), piece(7, 3), piece(4, 3)}, []api.Point{point(0, 0), point(0, 3), point(0, 6)}, 9},
		{"room on the shelf ahead of the last one", 5, []api.Piece{piece(5, 6), piece(1, 5), piece(5, 4), piece(4, 3), piece(1, 2)}, []api.Point{point(0, 0), point(0, 6), point(0, 11), point(0, 15), point(4, 15)}, 18},
		{"six, three shelves and one", 7, []api.Piece{piece(3, 2), piece(5, 4), piece(2, 4), piece(4, 1), piece(6, 3), piece(1, 1)},
			[]api.Point{point(0, 7), point(0, 0), point(5, 0), point(3, 7), point(0, 4), point(0, 9)}, 10},
		{"one wide, each a shelf", 1, []api.Piece{piece(1, 2), piece(1, 9), piece(1, 2), piece(1, 5)}, []api.Point{point(0, 14), point(0, 0), point(0, 16), point(0, 9)}, 18},
		{"as wide and as high as can be", api.MaxCloth, []api.Piece{piece(1, 1), piece(1048576, 1048576), piece(1048575, 1048576)}, []api.Point{point(1048575, 1048576), point(0, 0), point(0, 1048576)}, 2097152},
	} {
		t.Run(x.name, func(t *testing.T) { isLaid(t, x.wide, x.l, x.want, x.high) })
	}
}

// TestB1LayInAllOrders: pieces that are all unlike high lie at the same points, in whichever order they are handed in; each point is told at its piece's place.
func TestB1LayInAllOrders(t *testing.T) {
	for _, x := range []struct {
		wide, high int
		at         map[api.Piece]api.Point
	}{
		{20, 5, map[api.Piece]api.Point{piece(3, 5): point(0, 0), piece(4, 4): point(3, 0), piece(2, 3): point(7, 0), piece(1, 2): point(9, 0), piece(6, 1): point(10, 0)}},
		{8, 10, map[api.Piece]api.Point{piece(5, 5): point(0, 0), piece(4, 4): point(0, 5), piece(3, 3): point(4, 5), piece(1, 2): point(7, 5), piece(8, 1): point(0, 9)}},
		{8, 15, map[api.Piece]api.Point{piece(5, 5): point(0, 0), piece(6, 4): point(0, 5), piece(7, 3): point(0, 9), piece(8, 2): point(0, 12), piece(1, 1): point(0, 14)}},
	} {
		var l []api.Piece
		for p := range x.at {
			l = append(l, p)
		}
		for _, order := range orders(l) {
			var want []api.Point
			for _, p := range order {
				want = append(want, x.at[p])
			}
			isLaid(t, x.wide, order, want, x.high)
		}
	}
}

// TestB1LayAsHighOnesInTheirOrder: of pieces of two heights, in all orders, the higher ones lie first, each behind the one that was handed in ahead of it; then the lower ones likewise.
func TestB1LayAsHighOnesInTheirOrder(t *testing.T) {
	for _, order := range orders([]api.Piece{piece(1, 9), piece(2, 9), piece(4, 9), piece(8, 5), piece(16, 5), piece(32, 5)}) {
		x := map[int]int{9: 0, 5: 1 + 2 + 4}
		var want []api.Point
		for _, p := range order {
			want = append(want, point(x[p.High], 0))
			x[p.High] += p.Wide
		}
		isLaid(t, 63, order, want, 9)
	}
	for _, order := range orders([]api.Piece{piece(7, 9), piece(8, 9), piece(9, 9), piece(7, 5), piece(8, 5), piece(9, 5)}) {
		y := map[int]int{9: 0, 5: 27}
		var want []api.Point
		for _, p := range order {
			want = append(want, point(0, y[p.High]))
			y[p.High] += p.High
		}
		isLaid(t, 13, order, want, 42)
	}
}

// TestB1LayManyAsHigh: a long list keeps the order of as high pieces, and of each height by itself.
func TestB1LayManyAsHigh(t *testing.T) {
	l := make([]api.Piece, api.MaxPieces)
	want := make([]api.Point, len(l))
	for i := range l {
		l[i] = piece(1+i%7, 3)
		if i > 0 {
			want[i] = point(want[i-1].X+l[i-1].Wide, 0)
		}
	}
	isLaid(t, api.MaxCloth, l, want, 3)
	x := map[int]int{4: 0, 3: 64, 2: 128, 1: 192}
	for i := range l {
		l[i] = piece(1, 1+i%4)
		want[i] = point(x[l[i].High], 0)
		x[l[i].High]++
	}
	isLaid(t, 256, l, want, 4)
}

// TestB1LayJustRoom: a second piece for all that is left of the shelf, and one that lacks one; so of a third one.
func TestB1LayJustRoom(t *testing.T) {
	for _, wide := range []int{2, 3, 4, 5, 6, 7, 8, 30, 31, 32, 33, 1000, api.MaxCloth - 1, api.MaxCloth} {
		for _, first := range []int{1, wide / 2, wide - 1} {
			for _, low := range []int{1, 2, 6, 7} {
				isLaid(t, wide, []api.Piece{piece(first, 7), piece(wide-first, low)}, []api.Point{point(0, 0), point(first, 0)}, 7)
				isLaid(t, wide, []api.Piece{piece(first, 7), piece(wide-first+1, low)}, []api.Point{point(0, 0), point(0, 7)}, 7+low)
				if wide-first < 2 {
					continue
				}
				isLaid(t, wide, []api.Piece{piece(first, 7), piece(1, 7), piece(wide-first-1, low)}, []api.Point{point(0, 0), point(first, 0), point(first+1, 0)}, 7)
				isLaid(t, wide, []api.Piece{piece(first, 7), piece(1, 7), piece(wide-first, low)}, []api.Point{point(0, 0), point(first, 0), point(0, 7)}, 7+low)
			}
		}
	}
}

// TestB1LayHowHigh: of no pieces, of pieces each as wide as wide, and of as many and as high ones as there may be.
func TestB1LayHowHigh(t *testing.T) {
	for _, wide := range []int{1, 2, 7, api.MaxCloth} {
		for _, none := range [][]api.Piece{nil, {}} {
			isLaid(t, wide, none, nil, 0)
		}
		isLaid(t, wide, []api.Piece{piece(wide, 4), piece(wide, 6), piece(wide, 5)}, []api.Point{point(0, 11), point(0, 0), point(0, 6)}, 15)
		l := slices.Repeat([]api.Piece{piece(wide, api.MaxCloth)}, api.MaxPieces)
		want := make([]api.Point, len(l))
		for i := range want {
			want[i] = point(0, i*1048576)
		}
		isLaid(t, wide, l, want, 268435456)
	}
	small := slices.Repeat([]api.Piece{piece(1, 1)}, api.MaxPieces)
	square, row := make([]api.Point, len(small)), make([]api.Point, len(small))
	for i := range small {
		square[i], row[i] = point(i%16, i/16), point(i, 0)
	}
	isLaid(t, 16, small, square, 16)
	isLaid(t, 256, small, row, 1)
	isLaid(t, api.MaxCloth, small, row, 1)
	row[255] = point(0, 1)
	isLaid(t, 255, small, row, 2)
}

// asLaid: Lay tells what B1's words do.
func asLaid(t *testing.T, wide int, l []api.Piece) {
	t.Helper()
	want, high := layByWords(wide, l)
	isLaid(t, wide, l, want, high)
}

// TestB1LaySmallByTheWords: all lists of up to four small pieces on small cloth.
func TestB1LaySmallByTheWords(t *testing.T) {
	for wide := 1; wide <= 4; wide++ {
		var kinds []api.Piece
		for w := 1; w <= wide; w++ {
			for h := 1; h <= 3; h++ {
				kinds = append(kinds, piece(w, h))
			}
		}
		lists := [][]api.Piece{nil}
		for range 4 {
			var longer [][]api.Piece
			for _, l := range lists {
				for _, p := range kinds {
					longer = append(longer, slices.Concat(l, []api.Piece{p}))
				}
			}
			for _, l := range longer {
				asLaid(t, wide, l)
			}
			lists = longer
		}
	}
}

// drawn are many lists: few and many pieces, narrow and wide ones, of few heights and of many; and their cloth.
func drawn(seed int) (wide int, l []api.Piece) {
	wide = 1 + strewn([]int{3, 12, 100, api.MaxCloth}[seed%4], 7*seed)
	many := strewn([]int{6, 30, api.MaxPieces + 1}[seed%3], 7*seed+1)
	widest := 1 + strewn(wide, 7*seed+2)
	high := 1 + strewn([]int{2, 5, 40, 1000, api.MaxCloth}[seed%5], 7*seed+3)
	return wide, strewnPieces(many, widest, high, seed)
}

// TestB1LayByTheWords: drawn lists.
func TestB1LayByTheWords(t *testing.T) {
	for seed := range 3000 {
		wide, l := drawn(seed)
		asLaid(t, wide, l)
	}
	for seed := range 20 {
		asLaid(t, api.MaxCloth, strewnPieces(api.MaxPieces, api.MaxCloth, api.MaxCloth, seed))
		asLaid(t, 1000, strewnPieces(api.MaxPieces, 300, 4, seed))
	}
}

// TestB1LittleIsLost: what comes of it: no piece lies on another one, all lie on as much cloth as is told, and on no less; and the cloth is at most twice the pieces' places, and what the highest one is high.
func TestB1LittleIsLost(t *testing.T) {
	for seed := range 1000 {
		wide, l := drawn(10000 + seed)
		at, high := laid(t, wide, l)
		isFit(t, wide, high, l, at, true)
		isFit(t, wide, high-1, l, at, len(l) == 0)
		places, highest := 0, 0
		for _, p := range l {
			places += p.Wide * p.High
			highest = max(highest, p.High)
		}
		if wide*high > 2*places+wide*highest {
			t.Errorf("%d wide: %d pieces of %d places, the highest %d high, take %d", wide, len(l), places, highest, high)
		}
	}
}
