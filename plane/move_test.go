package plane

import (
	"math/cmplx"
	"testing"

	"tapestry/api"
)

func TestP3ApplyMirrorsThenTurnsThenAdds(t *testing.T) {
	for _, g := range grids {
		turn := place(g, at(0, 1))
		for _, f := range movesBy(g, at(0, 0), at(1, 0), at(-3, 5)) {
			for _, z := range around(4) {
				want := place(g, z)
				if f.Flip {
					want = cmplx.Conj(want)
				}
				for range f.Turn {
					want *= turn
				}
				want += place(g, f.By)
				p, err := Apply(g, f, z)
				if err != api.OK || !near(place(g, p), want) {
					t.Errorf("Apply(%d, %v, %v): %v %d", g, f, z, p, err)
				}
			}
		}
	}
}

func TestP3ApplyAtTheBounds(t *testing.T) {
	for _, x := range []struct {
		g    int
		f    api.Move
		z, p api.Point
		err  api.Errno
	}{
		{api.Square, api.Move{By: at(1, 0)}, at(most-1, 0), at(most, 0), api.OK},
		{api.Square, api.Move{By: at(1, 0)}, at(most, 0), at(0, 0), api.ErrMuch},
		{api.Square, api.Move{By: at(0, -1)}, at(0, -most+1), at(0, -most), api.OK},
		{api.Square, api.Move{By: at(0, -1)}, at(0, -most), at(0, 0), api.ErrMuch},
		{api.Hex, api.Move{By: at(-1, 0)}, at(-most, 0), at(0, 0), api.ErrMuch},
		{api.Hex, api.Move{By: at(0, 1)}, at(0, most), at(0, 0), api.ErrMuch},
		{api.Hex, api.Move{By: at(most, most)}, at(most, most), at(0, 0), api.ErrMuch},
		{api.Hex, api.Move{Turn: 1}, at(most, most), at(0, 0), api.ErrMuch},
		{api.Hex, api.Move{Flip: true}, at(most, 1), at(0, 0), api.ErrMuch},
		{api.Hex, api.Move{Flip: true}, at(most-1, 1), at(most, -1), api.OK},
		{api.Square, api.Move{Turn: 3, Flip: true}, at(most, -most), at(most, -most), api.OK},
		// What is beyond the bounds on the way does not count, if what comes out isn't.
		{api.Hex, api.Move{Flip: true, By: at(-most, 0)}, at(most, most), at(most, -most), api.OK},
		{api.Hex, api.Move{Turn: 1, By: at(0, -most)}, at(most, most), at(-most, most), api.OK},
		{api.Hex, api.Move{Turn: 2}, at(most, -1), at(-most+1, most), api.OK},
		{api.Hex, api.Move{Turn: 4, Flip: true}, at(most, most), at(-most, -most), api.OK},
		{api.Hex, api.Move{Turn: 3, Flip: true, By: at(most, 0)}, at(most, most), at(-most, most), api.OK},
	} {
		if p, err := Apply(x.g, x.f, x.z); p != x.p || err != x.err {
			t.Errorf("Apply(%d, %v, %v): %v %d, not %v %d", x.g, x.f, x.z, p, err, x.p, x.err)
		}
	}
}

func TestP3ComposeDoesTheSecondFirst(t *testing.T) {
	for _, g := range grids {
		for _, f := range movesBy(g, at(0, 0), at(2, -1), at(-3, 5)) {
			for _, h := range movesBy(g, at(0, 0), at(4, 1)) {
				m, err := Compose(g, f, h)
				if err != api.OK || Wrong(g, m) != api.OK {
					t.Fatalf("Compose(%d, %v, %v): %v %d", g, f, h, m, err)
				}
				for _, z := range []api.Point{at(0, 0), at(1, 0), at(0, 1), at(-3, 7)} {
					first, _ := Apply(g, h, z)
					want, _ := Apply(g, f, first)
					if p, _ := Apply(g, m, z); p != want {
						t.Fatalf("Compose(%d, %v, %v): %v, which takes %v to %v, not %v", g, f, h, m, z, p, want)
					}
				}
			}
		}
	}
}

func TestP3ComposeAtTheBounds(t *testing.T) {
	for _, x := range []struct {
		g       int
		f, h, m api.Move
		err     api.Errno
	}{
		{api.Square, api.Move{By: at(1, 0)}, api.Move{By: at(most-1, 0)}, api.Move{By: at(most, 0)}, api.OK},
		{api.Square, api.Move{By: at(1, 0)}, api.Move{By: at(most, 0)}, api.Move{}, api.ErrMuch},
		{api.Square, api.Move{By: at(0, -1)}, api.Move{Turn: 1, By: at(0, -most)}, api.Move{}, api.ErrMuch},
		{api.Square, api.Move{Turn: 2, By: at(most, 0)}, api.Move{Turn: 3, By: at(most, 0)}, api.Move{Turn: 1}, api.OK},
		{api.Hex, api.Move{Turn: 1}, api.Move{By: at(most, most)}, api.Move{}, api.ErrMuch},
		{api.Hex, api.Move{Turn: 1, By: at(0, -most)}, api.Move{Flip: true, By: at(most, most)}, api.Move{Turn: 1, Flip: true, By: at(-most, most)}, api.OK},
		{api.Hex, api.Move{Flip: true, By: at(-most, 0)}, api.Move{Turn: 2, Flip: true, By: at(most, most)}, api.Move{Turn: 4, By: at(most, -most)}, api.OK},
	} {
		if m, err := Compose(x.g, x.f, x.h); m != x.m || err != x.err {
			t.Errorf("Compose(%d, %v, %v): %v %d, not %v %d", x.g, x.f, x.h, m, err, x.m, x.err)
		}
	}
}

func TestP3InverseTakesBack(t *testing.T) {
	for _, g := range grids {
		for _, f := range movesBy(g, at(0, 0), at(2, -1), at(-3, 5), at(0, 7)) {
			back, err := Inverse(g, f)
			if err != api.OK || Wrong(g, back) != api.OK {
				t.Fatalf("Inverse(%d, %v): %v %d", g, f, back, err)
			}
			for _, z := range around(2) {
				there, _ := Apply(g, f, z)
				if p, _ := Apply(g, back, there); p != z {
					t.Errorf("Inverse(%d, %v): %v, which takes %v, where %v came to, to %v", g, f, back, there, z, p)
				}
				there, _ = Apply(g, back, z)
				if p, _ := Apply(g, f, there); p != z {
					t.Errorf("Inverse(%d, %v): %v, which takes %v to %v, and that comes to %v", g, f, back, z, there, p)
				}
			}
		}
	}
}

func TestP3InverseAtTheBounds(t *testing.T) {
	for _, x := range []struct {
		g       int
		f, back api.Move
		err     api.Errno
	}{
		{api.Square, api.Move{By: at(most, -most)}, api.Move{By: at(-most, most)}, api.OK},
		{api.Square, api.Move{Turn: 1, By: at(most, -most)}, api.Move{Turn: 3, By: at(most, most)}, api.OK},
		{api.Square, api.Move{Turn: 3, Flip: true, By: at(most, most)}, api.Move{Turn: 3, Flip: true, By: at(most, most)}, api.OK},
		{api.Hex, api.Move{By: at(-most, -most)}, api.Move{By: at(most, most)}, api.OK},
		{api.Hex, api.Move{Turn: 3, By: at(most, most)}, api.Move{Turn: 3, By: at(most, most)}, api.OK},
		{api.Hex, api.Move{Turn: 1, By: at(most, most)}, api.Move{}, api.ErrMuch},
		{api.Hex, api.Move{Turn: 1, By: at(most, -most)}, api.Move{Turn: 5, By: at(0, most)}, api.OK},
		{api.Hex, api.Move{Turn: 1, By: at(most-1, 1)}, api.Move{Turn: 5, By: at(-most, most-1)}, api.OK},
		{api.Hex, api.Move{Turn: 1, By: at(most, 1)}, api.Move{}, api.ErrMuch},
		{api.Hex, api.Move{Flip: true, By: at(most, 1)}, api.Move{}, api.ErrMuch},
		{api.Hex, api.Move{Flip: true, By: at(most-1, 1)}, api.Move{Flip: true, By: at(-most, 1)}, api.OK},
		{api.Hex, api.Move{Turn: 1, Flip: true, By: at(-most, most)}, api.Move{Turn: 1, Flip: true, By: at(-most, most)}, api.OK},
	} {
		if back, err := Inverse(x.g, x.f); back != x.back || err != x.err {
			t.Errorf("Inverse(%d, %v): %v %d, not %v %d", x.g, x.f, back, err, x.back, x.err)
		}
	}
}

// Order is held against doing a move many times; where three corners come back all points do.
func TestP3OrderIsTheLeastNumberOfTimes(t *testing.T) {
	corners := [3]api.Point{at(0, 0), at(1, 0), at(0, 1)}
	for _, g := range grids {
		for _, f := range movesBy(g, around(3)...) {
			want, now := 0, corners
			for n := 1; n <= 4*g && want == 0; n++ {
				for i, z := range now {
					now[i], _ = Apply(g, f, z)
				}
				if now == corners {
					want = n
				}
			}
			if n, err := Order(g, f); n != want || err != api.OK {
				t.Errorf("Order(%d, %v): %d %d, not %d", g, f, n, err, want)
			}
		}
	}
}

// No point comes out of Order: what is beyond the bounds on the way does not count.
func TestP3OrderAtTheBounds(t *testing.T) {
	for _, x := range []struct {
		g    int
		f    api.Move
		want int
	}{
		{api.Square, api.Move{}, 1},
		{api.Hex, api.Move{}, 1},
		{api.Square, api.Move{By: at(most, most)}, 0},
		{api.Square, api.Move{By: at(0, -1)}, 0},
		{api.Square, api.Move{Turn: 1, By: at(most, most)}, 4},
		{api.Square, api.Move{Turn: 2, By: at(most, -most)}, 2},
		{api.Square, api.Move{Turn: 3, By: at(-most, most)}, 4},
		{api.Square, api.Move{Flip: true, By: at(0, most)}, 2},
		{api.Square, api.Move{Flip: true, By: at(most, 0)}, 0},
		{api.Hex, api.Move{Turn: 1, By: at(most, most)}, 6},
		{api.Hex, api.Move{Turn: 2, By: at(most, most)}, 3},
		{api.Hex, api.Move{Turn: 3, By: at(most, most)}, 2},
		{api.Hex, api.Move{Turn: 4, By: at(-most, -most)}, 3},
		{api.Hex, api.Move{Turn: 5, By: at(most, most)}, 6},
		{api.Hex, api.Move{Flip: true, By: at(most, most)}, 0},
		{api.Hex, api.Move{Turn: 1, Flip: true, By: at(-most, most)}, 2},
		{api.Hex, api.Move{Turn: 1, Flip: true, By: at(-most, most-1)}, 0},
	} {
		if n, err := Order(x.g, x.f); n != x.want || err != api.OK {
			t.Errorf("Order(%d, %v): %d %d, not %d", x.g, x.f, n, err, x.want)
		}
	}
}
