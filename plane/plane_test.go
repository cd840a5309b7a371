package plane

import (
	"math"
	"math/cmplx"
	"testing"

	"tapestry/api"
)

const most = api.MaxPoint

var grids = []int{api.Square, api.Hex}

func at(x, y int) api.Point { return api.Point{X: x, Y: y} }

// place is where a point lies in the plane of complex numbers: what the whole numbers are held against.
func place(g int, p api.Point) complex128 {
	turn := complex(0, 1)
	if g == api.Hex {
		turn = complex(0.5, math.Sqrt(3)/2)
	}
	return complex(float64(p.X), 0) + complex(float64(p.Y), 0)*turn
}

func near(a, b complex128) bool { return cmplx.Abs(a-b) < 1e-6 }

// around are all points with parts from -n to n.
func around(n int) []api.Point {
	var out []api.Point
	for y := -n; y <= n; y++ {
		for x := -n; x <= n; x++ {
			out = append(out, at(x, y))
		}
	}
	return out
}

// movesBy are all moves of a grid by some points.
func movesBy(g int, by ...api.Point) []api.Move {
	var out []api.Move
	for _, flip := range []bool{false, true} {
		for turn := range g {
			for _, p := range by {
				out = append(out, api.Move{Turn: turn, Flip: flip, By: p})
			}
		}
	}
	return out
}

// calls are all calls of the package that take a move and a point, or two points, as functions that tell the error, and
// whether all else is zero.
func calls(g int, f, h api.Move, a, b api.Point) map[string]func() (api.Errno, bool) {
	ofPoint := func(p api.Point, err api.Errno) (api.Errno, bool) { return err, p == api.Point{} }
	ofMove := func(m api.Move, err api.Errno) (api.Errno, bool) { return err, m == api.Move{} }
	ofNumber := func(n int, err api.Errno) (api.Errno, bool) { return err, n == 0 }
	return map[string]func() (api.Errno, bool){
		"Times":   func() (api.Errno, bool) { return ofPoint(Times(g, a, b)) },
		"Norm":    func() (api.Errno, bool) { return ofNumber(Norm(g, a)) },
		"Gcd":     func() (api.Errno, bool) { return ofPoint(Gcd(g, a, b)) },
		"Wrong":   func() (api.Errno, bool) { return Wrong(g, f), true },
		"Apply":   func() (api.Errno, bool) { return ofPoint(Apply(g, f, b)) },
		"Compose": func() (api.Errno, bool) { return ofMove(Compose(g, f, h)) },
		"Inverse": func() (api.Errno, bool) { return ofMove(Inverse(g, f)) },
		"Order":   func() (api.Errno, bool) { return ofNumber(Order(g, f)) },
	}
}

func TestP1NoGrid(t *testing.T) {
	bad := api.Move{Turn: -1, By: at(most+1, 0)}
	for _, g := range []int{math.MinInt, -6, -4, -1, 0, 1, 3, 5, 7, 8, 12, math.MaxInt} {
		for name, call := range calls(g, api.Move{}, api.Move{}, at(1, 1), at(1, 1)) {
			if err, zero := call(); err != api.ErrKind || !zero {
				t.Errorf("%s on the grid %d: %d, zero %v", name, g, err, zero)
			}
		}
		// ErrKind is told ahead of all that is wrong besides.
		for name, call := range calls(g, bad, bad, at(0, most+1), at(most+1, 0)) {
			if err, zero := call(); err != api.ErrKind || !zero {
				t.Errorf("%s on the grid %d, with other errors: %d, zero %v", name, g, err, zero)
			}
		}
	}
}

func TestP1PartsBeyondTheBounds(t *testing.T) {
	for _, g := range grids {
		for _, n := range []int{math.MinInt, -most - 1, most + 1, math.MaxInt} {
			for _, p := range []api.Point{at(n, 0), at(0, n), at(n, n)} {
				for name, call := range calls(g, api.Move{By: p}, api.Move{}, p, p) {
					if err, zero := call(); err != api.ErrRange || !zero {
						t.Errorf("%s on the grid %d with %v: %d, zero %v", name, g, p, err, zero)
					}
				}
			}
		}
	}
}

func TestP1OneOfTwoIsBeyondTheBounds(t *testing.T) {
	good, bad := at(most, -most), at(0, -most-1)
	for _, g := range grids {
		for _, x := range [][2]api.Point{{good, bad}, {bad, good}} {
			if p, err := Times(g, x[0], x[1]); err != api.ErrRange || p != (api.Point{}) {
				t.Errorf("Times(%d, %v): %v %d", g, x, p, err)
			}
			if p, err := Gcd(g, x[0], x[1]); err != api.ErrRange || p != (api.Point{}) {
				t.Errorf("Gcd(%d, %v): %v %d", g, x, p, err)
			}
			if p, err := Apply(g, api.Move{By: x[0]}, x[1]); err != api.ErrRange || p != (api.Point{}) {
				t.Errorf("Apply(%d, %v): %v %d", g, x, p, err)
			}
			if m, err := Compose(g, api.Move{By: x[0]}, api.Move{By: x[1]}); err != api.ErrRange || m != (api.Move{}) {
				t.Errorf("Compose(%d, %v): %v %d", g, x, m, err)
			}
		}
	}
}

func TestP1PartsAtTheBounds(t *testing.T) {
	for _, g := range grids {
		for _, p := range []api.Point{at(most, 0), at(-most, 0), at(0, most), at(0, -most), at(most, most), at(-most, -most), at(most, -most)} {
			if got, err := Times(g, p, at(1, 0)); got != p || err != api.OK {
				t.Errorf("Times(%d, %v, 1): %v %d", g, p, got, err)
			}
			if _, err := Norm(g, p); err != api.OK {
				t.Errorf("Norm(%d, %v): %d", g, p, err)
			}
			if _, err := Gcd(g, p, at(0, 0)); err != api.OK {
				t.Errorf("Gcd(%d, %v, 0): %d", g, p, err)
			}
			if err := Wrong(g, api.Move{By: p}); err != api.OK {
				t.Errorf("Wrong(%d, by %v): %d", g, p, err)
			}
			if got, err := Apply(g, api.Move{By: p}, at(0, 0)); got != p || err != api.OK {
				t.Errorf("Apply(%d, by %v, 0): %v %d", g, p, got, err)
			}
			if got, err := Apply(g, api.Move{}, p); got != p || err != api.OK {
				t.Errorf("Apply(%d, nothing, %v): %v %d", g, p, got, err)
			}
			if _, err := Order(g, api.Move{By: p}); err != api.OK {
				t.Errorf("Order(%d, by %v): %d", g, p, err)
			}
		}
	}
}

func TestP1Turn(t *testing.T) {
	for _, g := range grids {
		for _, flip := range []bool{false, true} {
			for _, x := range []struct {
				turn int
				want api.Errno
			}{{0, api.OK}, {1, api.OK}, {g - 1, api.OK}, {g, api.ErrRange}, {g + 1, api.ErrRange}, {-1, api.ErrRange}, {math.MinInt, api.ErrRange}, {math.MaxInt, api.ErrRange}} {
				f := api.Move{Turn: x.turn, Flip: flip}
				if err := Wrong(g, f); err != x.want {
					t.Errorf("Wrong(%d, %v): %d", g, f, err)
				}
				_, err1 := Apply(g, f, at(1, 0))
				_, err2 := Compose(g, f, api.Move{})
				_, err3 := Compose(g, api.Move{}, f)
				_, err4 := Inverse(g, f)
				_, err5 := Order(g, f)
				for i, err := range []api.Errno{err1, err2, err3, err4, err5} {
					if err != x.want {
						t.Errorf("call %d on the grid %d with %v: %d", i, g, f, err)
					}
				}
			}
		}
	}
	// A turn that Hex has and Square has not.
	for turn := api.Square; turn < api.Hex; turn++ {
		if a, b := Wrong(api.Square, api.Move{Turn: turn}), Wrong(api.Hex, api.Move{Turn: turn}); a != api.ErrRange || b != api.OK {
			t.Errorf("Turn %d: %d and %d", turn, a, b)
		}
	}
}

func TestP1RangeIsToldAheadOfMuch(t *testing.T) {
	far := at(most, most)
	for _, g := range grids {
		if _, err := Times(g, far, at(most, most+1)); err != api.ErrRange {
			t.Errorf("Times: %d", err)
		}
		if _, err := Apply(g, api.Move{Turn: g, By: far}, far); err != api.ErrRange {
			t.Errorf("Apply: %d", err)
		}
		if _, err := Apply(g, api.Move{By: far}, at(most+1, most)); err != api.ErrRange {
			t.Errorf("Apply: %d", err)
		}
		if _, err := Compose(g, api.Move{By: far}, api.Move{Turn: -1, By: far}); err != api.ErrRange {
			t.Errorf("Compose: %d", err)
		}
		if _, err := Inverse(g, api.Move{Turn: g + 1, By: far}); err != api.ErrRange {
			t.Errorf("Inverse: %d", err)
		}
	}
}

func TestP1WhateverIsGiven(t *testing.T) {
	numbers := []int{math.MinInt, -most - 1, -most, -1, 0, 1, most, most + 1, math.MaxInt}
	for _, g := range []int{math.MinInt, 0, api.Square, 5, api.Hex, math.MaxInt} {
		for _, x := range numbers {
			for _, y := range numbers {
				for _, turn := range []int{math.MinInt, -1, 0, 3, 5, 6, math.MaxInt} {
					f := api.Move{Turn: turn, Flip: x < y, By: at(x, y)}
					h := api.Move{Turn: 1, Flip: x > y, By: at(y, x)}
					for name, call := range calls(g, f, h, at(x, y), at(y, x)) {
						if err, zero := call(); err != api.OK && !zero {
							t.Errorf("%s on the grid %d, %v: something stands beside the error %d", name, g, f, err)
						}
					}
				}
			}
		}
	}
}
