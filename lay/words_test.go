package lay_test

import (
	"math/big"
	"slices"
	"testing"

	"tapestry/api"
	"tapestry/lay"
)

// piece and point are short names for these tests.
func piece(wide, high int) api.Piece { return api.Piece{Wide: wide, High: high} }

func point(x, y int) api.Point { return api.Point{X: x, Y: y} }

// next is the highest piece that is not laid, of as high ones the first; -1, if all are laid.
func next(l []api.Piece, laid []bool) int {
	out := -1
	for i, p := range l {
		if !laid[i] && (out < 0 || p.High > l[out].High) {
			out = i
		}
	}
	return out
}

// shelvesByWords are the pieces of each shelf, by their places in the list, as B1's words say.
func shelvesByWords(wide int, l []api.Piece) [][]int {
	laid := make([]bool, len(l))
	var shelves [][]int
	for i := next(l, laid); i >= 0; i = next(l, laid) {
		laid[i] = true
		if n := len(shelves); n > 0 && wideTogether(l, shelves[n-1])+l[i].Wide <= wide {
			shelves[n-1] = append(shelves[n-1], i)
		} else {
			shelves = append(shelves, []int{i})
		}
	}
	return shelves
}

func wideTogether(l []api.Piece, shelf []int) (out int) {
	for _, i := range shelf {
		out += l[i].Wide
	}
	return out
}

// layByWords is where B1's words say that each piece begins, and how high all shelves are together.
func layByWords(wide int, l []api.Piece) ([]api.Point, int) {
	out := make([]api.Point, len(l))
	high := 0
	for _, shelf := range shelvesByWords(wide, l) {
		for n, i := range shelf {
			out[i] = point(wideTogether(l, shelf[:n]), high)
		}
		high += l[shelf[0]].High
	}
	return out, high
}

// fitsByCount is what B2's words say, by how many pieces there are at each place of the cloth: for small cloth, and points that are not far from it.
func fitsByCount(wide, high int, l []api.Piece, at []api.Point) bool {
	count := map[api.Point]int{}
	for i, p := range l {
		for x := at[i].X; x < at[i].X+p.Wide; x++ {
			for y := at[i].Y; y < at[i].Y+p.High; y++ {
				count[point(x, y)]++
			}
		}
	}
	for place, many := range count {
		if many > 1 || place.X < 0 || place.X >= wide || place.Y < 0 || place.Y >= high {
			return false
		}
	}
	return true
}

// sum has no bounds.
func sum(a, b int) *big.Int { return new(big.Int).Add(big.NewInt(int64(a)), big.NewInt(int64(b))) }

// fitsUnbounded is what B2's words say, of any points and any height, in numbers that don't wrap round.
func fitsUnbounded(wide, high int, l []api.Piece, at []api.Point) bool {
	ends := func(from, long, limit int) bool { return sum(from, long).Cmp(big.NewInt(int64(limit))) <= 0 }
	apart := func(i, j int) bool {
		return ends(at[i].X, l[i].Wide, at[j].X) || ends(at[j].X, l[j].Wide, at[i].X) || ends(at[i].Y, l[i].High, at[j].Y) || ends(at[j].Y, l[j].High, at[i].Y)
	}
	for i, p := range l {
		if at[i].X < 0 || at[i].Y < 0 || !ends(at[i].X, p.Wide, wide) || !ends(at[i].Y, p.High, high) {
			return false
		}
		for j := range i {
			if !apart(i, j) {
				return false
			}
		}
	}
	return true
}

// laid and fits are what is answered where nothing is wrong.
func laid(t *testing.T, wide int, l []api.Piece) ([]api.Point, int) {
	t.Helper()
	at, high, err := lay.Lay(wide, l)
	if err != api.OK || len(at) != len(l) {
		t.Fatalf("%d pieces on cloth %d wide: %d points, %d", len(l), wide, len(at), err)
	}
	return at, high
}

func fits(t *testing.T, wide, high int, l []api.Piece, at []api.Point) bool {
	t.Helper()
	is, err := lay.Fits(wide, high, l, at)
	if err != api.OK {
		t.Fatalf("%d pieces on cloth %d wide and %d high, at %d points: %d", len(l), wide, high, len(at), err)
	}
	return is
}

// isLaid holds what Lay tells against what is wanted; of long lists only a few points are told.
func isLaid(t *testing.T, wide int, l []api.Piece, want []api.Point, wantHigh int) {
	t.Helper()
	at, high := laid(t, wide, l)
	for i := range at {
		if at[i] != want[i] {
			t.Errorf("%d wide: of %d pieces %v.. the one at %d begins at %v, not %v", wide, len(l), l[:min(8, len(l))], i, at[i], want[i])
			break
		}
	}
	if high != wantHigh {
		t.Errorf("%d wide: %d pieces %v.. are %d high, not %d", wide, len(l), l[:min(8, len(l))], high, wantHigh)
	}
}

// isFit holds what Fits tells against what is wanted.
func isFit(t *testing.T, wide, high int, l []api.Piece, at []api.Point, want bool) {
	t.Helper()
	if got := fits(t, wide, high, l, at); got != want {
		t.Errorf("%d wide, %d high: %d pieces %v.. at %v..: %v, not %v", wide, high, len(l), l[:min(8, len(l))], at[:min(8, len(at))], got, want)
	}
}

// strewn is a number from 0 on below limit, another one for each seed.
func strewn(limit, seed int) int {
	x := uint64(seed)*0x9E3779B97F4A7C15 + 0xD1B54A32D192ED03
	x = (x ^ x>>30) * 0xBF58476D1CE4E5B9
	x = (x ^ x>>27) * 0x94D049BB133111EB
	return int((x ^ x>>31) % uint64(limit))
}

// strewnPieces are so many pieces, each at most so wide and so high.
func strewnPieces(many, wide, high, seed int) []api.Piece {
	out := make([]api.Piece, many)
	for i := range out {
		out[i] = piece(1+strewn(wide, 1000*seed+2*i), 1+strewn(high, 1000*seed+2*i+1))
	}
	return out
}

// orders are all orders of some pieces.
func orders(l []api.Piece) [][]api.Piece {
	if len(l) < 2 {
		return [][]api.Piece{slices.Clone(l)}
	}
	var out [][]api.Piece
	for i := range l {
		others := slices.Concat(l[:i], l[i+1:])
		for _, behind := range orders(others) {
			out = append(out, slices.Concat(l[i:i+1], behind))
		}
	}
	return out
}
