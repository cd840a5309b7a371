package plane

import (
	"math/cmplx"
	"testing"

	"tapestry/api"
)

func TestP2TimesIsTheProduct(t *testing.T) {
	for _, g := range grids {
		for _, a := range around(6) {
			for _, b := range around(6) {
				p, err := Times(g, a, b)
				if err != api.OK || !near(place(g, p), place(g, a)*place(g, b)) {
					t.Fatalf("Times(%d, %v, %v): %v %d", g, a, b, p, err)
				}
			}
		}
	}
}

func TestP2TimesKnown(t *testing.T) {
	for _, x := range []struct {
		g       int
		a, b, p api.Point
		err     api.Errno
	}{
		{api.Square, at(0, 1), at(0, 1), at(-1, 0), api.OK},
		{api.Hex, at(0, 1), at(0, 1), at(-1, 1), api.OK},
		{api.Square, at(3, 4), at(-2, 7), at(-34, 13), api.OK},
		{api.Hex, at(3, 4), at(-2, 7), at(-34, 41), api.OK},
		// Just within the bounds, and just beyond them, either way and of either part.
		{api.Square, at(1<<10, 0), at(1<<10, 0), at(most, 0), api.OK},
		{api.Square, at(1<<10, 0), at(1<<10, 1), at(most, 1<<10), api.OK},
		{api.Square, at(1<<10, 1), at(1<<10, -1), at(0, 0), api.ErrMuch},
		{api.Square, at(0, 1<<10), at(0, 1<<10), at(-most, 0), api.OK},
		{api.Square, at(1, 1<<10), at(-1, 1<<10), at(0, 0), api.ErrMuch},
		{api.Square, at(1<<10, 0), at(0, 1<<10), at(0, most), api.OK},
		{api.Square, at(-1<<10, 0), at(0, 1<<10), at(0, -most), api.OK},
		{api.Square, at(1<<10, 1), at(1, 1<<10), at(0, 0), api.ErrMuch},
		{api.Square, at(-1<<10, 1), at(-1, 1<<10), at(0, 0), api.ErrMuch},
		{api.Square, at(most, 1), at(0, 1), at(-1, most), api.OK},
		{api.Hex, at(most-1, 1), at(0, 1), at(-1, most), api.OK},
		{api.Hex, at(most, 1), at(0, 1), at(0, 0), api.ErrMuch},
		{api.Hex, at(-most, 0), at(0, 1), at(0, -most), api.OK},
		{api.Hex, at(-most, -1), at(0, 1), at(0, 0), api.ErrMuch},
		{api.Square, at(most, most), at(most, most), at(0, 0), api.ErrMuch},
		{api.Hex, at(-most, most), at(most, most), at(0, 0), api.ErrMuch},
		{api.Hex, at(-most, -most), at(0, 0), at(0, 0), api.OK},
	} {
		if p, err := Times(x.g, x.a, x.b); p != x.p || err != x.err {
			t.Errorf("Times(%d, %v, %v): %v %d, not %v %d", x.g, x.a, x.b, p, err, x.p, x.err)
		}
		if p, err := Times(x.g, x.b, x.a); p != x.p || err != x.err {
			t.Errorf("Times(%d, %v, %v): %v %d, not %v %d", x.g, x.b, x.a, p, err, x.p, x.err)
		}
	}
}

func TestP2NormIsTheSquaredLength(t *testing.T) {
	for _, g := range grids {
		for _, a := range around(9) {
			n, err := Norm(g, a)
			length := cmplx.Abs(place(g, a))
			if err != api.OK || !near(complex(float64(n), 0), complex(length*length, 0)) {
				t.Errorf("Norm(%d, %v): %d %d", g, a, n, err)
			}
		}
	}
}

// A norm is a number and no point: it is not held to the bounds.
func TestP2NormAtTheBounds(t *testing.T) {
	const square = most * most
	for _, x := range []struct {
		g    int
		a    api.Point
		want int
	}{
		{api.Square, at(0, 0), 0},
		{api.Hex, at(0, 0), 0},
		{api.Square, at(most, 0), square},
		{api.Square, at(-most, most), 2 * square},
		{api.Hex, at(0, -most), square},
		{api.Hex, at(most, most), 3 * square},
		{api.Hex, at(-most, -most), 3 * square},
		{api.Hex, at(most, -most), square},
		{api.Square, at(most, 1), square + 1},
		{api.Hex, at(most, 1), square + most + 1},
	} {
		if n, err := Norm(x.g, x.a); n != x.want || err != api.OK {
			t.Errorf("Norm(%d, %v): %d %d, not %d", x.g, x.a, n, err, x.want)
		}
	}
}

// multiples tells, for each point within reach of both parts, which of the divisors divide it.
func multiples(t *testing.T, g, reach int, divisors []api.Point) map[api.Point]map[api.Point]int {
	out := map[api.Point]map[api.Point]int{}
	for _, p := range around(reach) {
		out[p] = map[api.Point]int{}
	}
	for _, d := range divisors {
		for _, q := range around(2 * reach) {
			p, err := Times(g, d, q)
			if err != api.OK {
				t.Fatal(g, d, q, err)
			}
			if of, ok := out[p]; ok {
				of[d]++
			}
		}
	}
	return out
}

// Gcd is held against a search through all divisors.
func TestP2GcdIsTheGreatestDivisor(t *testing.T) {
	const reach = 6
	for _, g := range grids {
		var divisors []api.Point
		for _, d := range around(reach) {
			if d.X > 0 && d.Y >= 0 {
				divisors = append(divisors, d)
			}
		}
		divide := multiples(t, g, reach, divisors)
		for _, a := range around(reach) {
			for _, b := range around(reach) {
				if a == at(0, 0) && b == a {
					continue
				}
				var want api.Point
				norm := 0
				for _, d := range divisors {
					n, _ := Norm(g, d)
					if divide[a][d] > 0 && divide[b][d] > 0 && n > norm {
						want, norm = d, n
					}
				}
				if d, err := Gcd(g, a, b); d != want || err != api.OK {
					t.Fatalf("Gcd(%d, %v, %v): %v %d, not %v", g, a, b, d, err, want)
				}
			}
		}
	}
}

func TestP2GcdKnown(t *testing.T) {
	for _, x := range []struct {
		g       int
		a, b, d api.Point
	}{
		{api.Square, at(12, 0), at(9, 0), at(3, 0)},
		{api.Square, at(12, 6), at(9, -3), at(3, 9)},
		{api.Hex, at(12, 6), at(9, -3), at(3, 0)},
		{api.Square, at(0, 0), at(0, 0), at(0, 0)},
		{api.Hex, at(0, 0), at(0, 0), at(0, 0)},
		{api.Square, at(0, 0), at(0, -7), at(7, 0)},
		{api.Hex, at(-7, 0), at(0, 0), at(7, 0)},
		{api.Square, at(2, 0), at(1, -1), at(1, 1)},
		{api.Hex, at(3, 0), at(-1, 2), at(1, 1)},
		// At the bounds what is told keeps to them, too.
		{api.Square, at(-most, most), at(0, 0), at(most, most)},
		{api.Square, at(most, -most), at(-most, -most), at(most, most)},
		{api.Square, at(0, -most), at(most, 0), at(most, 0)},
		{api.Hex, at(most, most), at(0, 0), at(most, most)},
		{api.Hex, at(-most, -most), at(most, most), at(most, most)},
		{api.Hex, at(-most, most), at(0, 0), at(most, 0)},
		{api.Hex, at(most, -most+1), at(0, 0), at(most-1, 1)},
		{api.Hex, at(most-1, -most), at(0, 0), at(1, most-1)},
		{api.Square, at(most, most), at(most, most-1), at(1, 0)},
		{api.Hex, at(most, most), at(most, 0), at(most, 0)},
		{api.Square, at(832040, 0), at(514229, 0), at(1, 0)}, // neighbours of Fibonacci
		{api.Square, at(most, 0), at(most-1, 0), at(1, 0)},
	} {
		if d, err := Gcd(x.g, x.a, x.b); d != x.d || err != api.OK {
			t.Errorf("Gcd(%d, %v, %v): %v %d, not %v", x.g, x.a, x.b, d, err, x.d)
		}
		if d, err := Gcd(x.g, x.b, x.a); d != x.d || err != api.OK {
			t.Errorf("Gcd(%d, %v, %v): %v %d, not %v", x.g, x.b, x.a, d, err, x.d)
		}
	}
}

// Of d a and d b, where nothing divides both a and b, d is the greatest divisor.
func TestP2GcdOfGreatPoints(t *testing.T) {
	for _, g := range grids {
		for _, d := range []api.Point{at(1, 0), at(1, 1), at(701, 0), at(640, 512), at(1, 700)} {
			for _, a := range []api.Point{at(500, 1), at(-377, 233), at(233, -499), at(-1, -500)} {
				for _, b := range []api.Point{at(499, 12), at(0, -500), at(-1, 1)} {
					if one, _ := Gcd(g, a, b); one != at(1, 0) {
						continue
					}
					da, err1 := Times(g, d, a)
					db, err2 := Times(g, d, b)
					if err1 != api.OK || err2 != api.OK {
						t.Fatal(g, d, a, b, err1, err2)
					}
					if got, err := Gcd(g, da, db); got != d || err != api.OK {
						t.Errorf("Gcd(%d, %v, %v): %v %d, not %v", g, da, db, got, err, d)
					}
				}
			}
		}
	}
}
