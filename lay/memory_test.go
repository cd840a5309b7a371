package lay_test

import (
	"fmt"
	"math"
	"slices"
	"testing"

	"tapestry/api"
	"tapestry/lay"
)

// spoil changes a list, and the spare room behind it.
func spoil[T any](l []T, with T) {
	l = l[:cap(l)]
	for i := range l {
		l[i] = with
	}
}

// roomy is a list with spare room behind it that is full of something, and the whole of it.
func roomy[T any](l []T, behind T) (out, whole []T) {
	whole = slices.Concat(l, slices.Repeat([]T{behind}, 9))
	return whole[:len(l)], whole
}

// laySays and fitsSays are all that is answered, as a text.
func laySays(wide int, l []api.Piece) string {
	at, high, err := lay.Lay(wide, l)
	return fmt.Sprint(at, high, err)
}

func fitsSays(wide, high int, l []api.Piece, at []api.Point) string {
	is, err := lay.Fits(wide, high, l, at)
	return fmt.Sprint(is, err)
}

// asked is what Lay and Fits are asked: points stand beside the pieces, right ones and wrong ones.
type asked struct {
	wide, high int
	l          []api.Piece
	at         []api.Point
}

// says is what both answer.
func (a asked) says() string { return laySays(a.wide, a.l) + " " + fitsSays(a.wide, a.high, a.l, a.at) }

// own is the same with lists of its own.
func (a asked) own() asked {
	a.l, a.at = slices.Clone(a.l), slices.Clone(a.at)
	return a
}

// someAsked are such that fit, such that don't, and wrong ones.
func someAsked() []asked {
	out := []asked{
		{wide: 7, high: 3},
		{wide: 0, high: 3},
		{7, 10, []api.Piece{piece(3, 2), piece(5, 4)}, []api.Point{point(0, 0), point(0, 2)}},
		{7, 10, []api.Piece{piece(3, 2), piece(5, 4)}, []api.Point{point(0, 0), point(0, 1)}},
		{7, 10, []api.Piece{piece(3, 2), piece(5, 4)}, []api.Point{point(0, 0)}},
		{7, 10, []api.Piece{piece(3, 2), piece(8, 4)}, []api.Point{point(0, 0), point(0, 2)}},
		{7, 10, []api.Piece{piece(3, 2)}, nil},
		{7, 10, nil, []api.Point{point(0, 0)}},
		{7, 10, make([]api.Piece, 257), make([]api.Point, 257)},
		{7, 10, []api.Piece{piece(1, 1)}, []api.Point{point(math.MinInt, math.MaxInt)}},
	}
	for seed := range 12 {
		wide, l := drawn(seed)
		at, high, _ := lay.Lay(wide, l)
		out = append(out, asked{wide, high - seed%2, l, at})
	}
	full, at := tiles(2, 2)
	return append(out, asked{32, 32, full, at})
}

// TestE2OnlyReads: neither lists nor the spare room behind them are changed, nor is that room looked at.
func TestE2OnlyReads(t *testing.T) {
	for _, a := range someAsked() {
		want := a.own().says()
		for _, p := range []api.Piece{{}, piece(1, 1), piece(1, api.MaxCloth), piece(-1, math.MaxInt)} {
			for _, q := range []api.Point{{}, point(1, 1), point(math.MinInt, math.MaxInt)} {
				l, pieces := roomy(a.l, p)
				at, points := roomy(a.at, q)
				if got := (asked{a.wide, a.high, l, at}).says(); got != want {
					t.Errorf("with spare room full of %v and %v comes %s, not %s", p, q, got, want)
				}
				if !slices.Equal(pieces, slices.Concat(a.l, slices.Repeat([]api.Piece{p}, 9))) || !slices.Equal(points, slices.Concat(a.at, slices.Repeat([]api.Point{q}, 9))) {
					t.Errorf("%v or %v was changed, or what stands behind it", a.l, a.at)
				}
				spoil(pieces, p)
				spoil(points, q)
				if got := a.own().says(); got != want {
					t.Errorf("behind lists that were changed comes %s, not %s", got, want)
				}
			}
		}
	}
}

// TestE2NewMemory: points, and the spare room behind them, have nothing to do with other points, nor with the pieces that were handed in.
func TestE2NewMemory(t *testing.T) {
	for _, a := range someAsked() {
		l := slices.Clone(a.l)
		first, high, err := lay.Lay(a.wide, l)
		kept := slices.Clone(first)
		second, _, _ := lay.Lay(a.wide, l)
		spoil(second, point(-7, 7))
		if !slices.Equal(first, kept) || !slices.Equal(l, a.l) {
			t.Errorf("%v: with other points changed they are %v", a.l, first)
		}
		spoil(first, point(9, -9))
		third, again, errAgain := lay.Lay(a.wide, l)
		if !slices.Equal(third, kept) || again != high || errAgain != err || !slices.Equal(l, a.l) {
			t.Errorf("%v: behind points that were changed come %v, %d, %d, not %v, %d, %d", a.l, third, again, errAgain, kept, high, err)
		}
		spoil(l, piece(1, 5))
		if !slices.Equal(third, kept) {
			t.Errorf("%v: with its pieces changed the points are %v", a.l, third)
		}
	}
}

// TestE2FitsKeepsNothing: the same lists, changed between calls, are looked at anew each time.
func TestE2FitsKeepsNothing(t *testing.T) {
	l, at := []api.Piece{piece(3, 3), piece(2, 2)}, []api.Point{point(0, 0), point(3, 0)}
	isFit(t, 5, 3, l, at, true)
	at[1] = point(2, 0)
	isFit(t, 5, 3, l, at, false)
	l[0] = piece(2, 3)
	isFit(t, 5, 3, l, at, true)
	l[1] = piece(2, 4)
	isFit(t, 5, 3, l, at, false)
	l[1], at[1] = piece(2, 2), point(3, 1)
	isFit(t, 5, 3, l, at, true)
}

// TestE3NoEntries: nil and a list without entries answer alike, that one too that has spare room.
func TestE3NoEntries(t *testing.T) {
	noPieces := [][]api.Piece{nil, {}, make([]api.Piece, 0, 8), []api.Piece{piece(1, 1), piece(9, 9)}[:0]}
	noPoints := [][]api.Point{nil, {}, make([]api.Point, 0, 8), []api.Point{point(-1, 5)}[:0]}
	for _, wide := range []int{math.MinInt, -1, 0, 1, 2, api.MaxCloth, api.MaxCloth + 1, math.MaxInt} {
		for _, l := range noPieces {
			if laySays(wide, l) != laySays(wide, nil) {
				t.Errorf("%d wide: %s, of nil %s", wide, laySays(wide, l), laySays(wide, nil))
			}
			for _, high := range []int{math.MinInt, -1, 0, 1, math.MaxInt} {
				for _, at := range noPoints {
					if fitsSays(wide, high, l, at) != fitsSays(wide, high, nil, nil) {
						t.Errorf("%d wide, %d high: %s, of nil %s", wide, high, fitsSays(wide, high, l, at), fitsSays(wide, high, nil, nil))
					}
				}
				if fitsSays(wide, high, l, []api.Point{{}}) != fitsSays(wide, high, nil, []api.Point{{}}) {
					t.Errorf("%d wide, %d high, one point: %s", wide, high, fitsSays(wide, high, l, []api.Point{{}}))
				}
			}
		}
		for _, at := range noPoints {
			one := []api.Piece{piece(1, 1)}
			if fitsSays(wide, 3, one, at) != fitsSays(wide, 3, one, nil) {
				t.Errorf("%d wide, one piece: %s, of nil %s", wide, fitsSays(wide, 3, one, at), fitsSays(wide, 3, one, nil))
			}
		}
	}
}

// everything is what is answered of all that these tests ask, in an order that begins elsewhere for each turn.
func everything(turn int, all []asked) []string {
	out := make([]string, len(all))
	for i := range all {
		at := (i + turn) % len(all)
		out[at] = all[at].says()
	}
	return out
}

// TestE1SideBySide: asked again, in any order and by several goroutines, about the same lists, each call answers the same.
func TestE1SideBySide(t *testing.T) {
	all := someAsked()
	want := everything(0, all)
	told := make([][]string, 12)
	ready := make(chan int)
	for i := range told {
		go func() {
			told[i] = everything(i, all)
			ready <- i
		}()
	}
	for range told {
		<-ready
	}
	for i, got := range told {
		if !slices.Equal(got, want) || !slices.Equal(everything(i, all), want) {
			t.Errorf("from %d on: %v, not %v", i, got, want)
		}
	}
}
