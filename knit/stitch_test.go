package knit_test

import (
	"testing"

	"tapestry/api"
	"tapestry/knit"
)

// step is a stitch, and what has been knitted behind it.
type step struct {
	x    api.Stitch
	want string
}

// follow does stitch by stitch, with a look at all that has been knitted behind each one; and Run of the first so many tells the same.
func follow(t *testing.T, needles int, steps []step) {
	t.Helper()
	m := machine(t, needles)
	var l []api.Stitch
	for _, s := range steps {
		does(t, m, s.x)
		tells(t, m, s.want)
		l = append(l, s.x)
		k, fault := knit.Run(needles, l)
		if !same(k, m.State()) || fault != (api.Fault{}) {
			t.Fatalf("Run of %v: %v %v, not %s", l, k, fault, s.want)
		}
	}
}

// TestN2Example: tuck, then knit on one needle: two loops, the second one through the first one.
func TestN2Example(t *testing.T) {
	follow(t, 1, []step{
		{tucks(api.Front, 0, 0), "{[{0 []}] [[0]] [[]] [] 0}"},
		{knits(api.Front, 0, 0), "{[{0 []} {0 [0]}] [[1]] [[]] [] 0}"},
	})
}

// TestN2Story: several carriers on both beds, each kind of stitch, racks to and fro.
func TestN2Story(t *testing.T) {
	follow(t, 3, []step{
		{tucks(api.Front, 0, 0), "{[{0 []}] [[0] [] []] [[] [] []] [] 0}"},
		{tucks(api.Back, 0, 7), "{[{0 []} {7 []}] [[0] [] []] [[1] [] []] [] 0}"},
		{tucks(api.Front, 0, 2), "{[{0 []} {7 []} {2 []}] [[0 2] [] []] [[1] [] []] [] 0}"},
		{moves(api.Back, 0), "{[{0 []} {7 []} {2 []}] [[0 2 1] [] []] [[] [] []] [] 0}"},
		{tucks(api.Front, 2, 7), "{[{0 []} {7 []} {2 []} {7 []}] [[0 2 1] [] [3]] [[] [] []] [] 0}"},
		{racks(2), "{[{0 []} {7 []} {2 []} {7 []}] [[0 2 1] [] [3]] [[] [] []] [] 2}"},
		{moves(api.Front, 2), "{[{0 []} {7 []} {2 []} {7 []}] [[0 2 1] [] []] [[3] [] []] [] 2}"},
		{misses(api.Back, 1, 5), "{[{0 []} {7 []} {2 []} {7 []}] [[0 2 1] [] []] [[3] [] []] [] 2}"},
		{racks(0), "{[{0 []} {7 []} {2 []} {7 []}] [[0 2 1] [] []] [[3] [] []] [] 0}"},
		{moves(api.Front, 0), "{[{0 []} {7 []} {2 []} {7 []}] [[] [] []] [[3 0 2 1] [] []] [] 0}"},
		{knits(api.Back, 0, 1), "{[{0 []} {7 []} {2 []} {7 []} {1 [3 0 2 1]}] [[] [] []] [[4] [] []] [] 0}"},
		{racks(-1), "{[{0 []} {7 []} {2 []} {7 []} {1 [3 0 2 1]}] [[] [] []] [[4] [] []] [] -1}"},
		{tucks(api.Back, 2, 0), "{[{0 []} {7 []} {2 []} {7 []} {1 [3 0 2 1]} {0 []}] [[] [] []] [[4] [] [5]] [] -1}"},
		{moves(api.Back, 2), "{[{0 []} {7 []} {2 []} {7 []} {1 [3 0 2 1]} {0 []}] [[] [5] []] [[4] [] []] [] -1}"},
		{tucks(api.Front, 1, 6), "{[{0 []} {7 []} {2 []} {7 []} {1 [3 0 2 1]} {0 []} {6 []}] [[] [5 6] []] [[4] [] []] [] -1}"},
		{drops(api.Front, 1), "{[{0 []} {7 []} {2 []} {7 []} {1 [3 0 2 1]} {0 []} {6 []}] [[] [] []] [[4] [] []] [5 6] -1}"},
		{drops(api.Back, 0), "{[{0 []} {7 []} {2 []} {7 []} {1 [3 0 2 1]} {0 []} {6 []}] [[] [] []] [[] [] []] [5 6 4] -1}"},
		{tucks(api.Front, 2, 4), "{[{0 []} {7 []} {2 []} {7 []} {1 [3 0 2 1]} {0 []} {6 []} {4 []}] [[] [] [7]] [[] [] []] [5 6 4] -1}"},
	})
}

// TestN2KnitThrough: a knit of each number of loops that a needle may hold, on both beds: through all of them, in the order in which they came.
func TestN2KnitThrough(t *testing.T) {
	for bed := range 2 {
		for count := 1; count <= api.MaxHeld; count++ {
			m := machine(t, 2)
			does(t, m, tucks(bed, 0, 1))
			want := []int{0}
			for i := 1; i < count; i++ { // by turns from the other bed and from the carrier
				if i%2 == 0 {
					does(t, m, tucks(bed, 0, i))
				} else {
					does(t, m, tucks(1-bed, 0, i), moves(1-bed, 0))
				}
				want = append(want, i)
			}
			holds(t, m, bed, 0, want...)
			does(t, m, knits(bed, 0, 6))
			holds(t, m, bed, 0, count)
			k := m.State()
			if last := k.Loops[count]; last.Carrier != 6 || !same(api.Knitted{Loose: last.Through}, api.Knitted{Loose: want}) {
				t.Errorf("%d loops: %v", count, last)
			}
			does(t, m, knits(bed, 0, 6))
			holds(t, m, bed, 0, count+1)
		}
	}
}

// TestN2Order: the order in which loops came to a needle is not that in which they were made.
func TestN2Order(t *testing.T) {
	m := machine(t, 4)
	does(t, m, tucks(api.Front, 3, 0), tucks(api.Front, 1, 0), tucks(api.Back, 2, 0), tucks(api.Back, 2, 0))
	does(t, m, racks(-1), moves(api.Front, 1), racks(1), moves(api.Front, 3))
	holds(t, m, api.Back, 2, 2, 3, 1, 0)
	does(t, m, racks(0), moves(api.Back, 2), tucks(api.Back, 2, 5), moves(api.Front, 2))
	holds(t, m, api.Back, 2, 4, 2, 3, 1, 0)
	does(t, m, drops(api.Back, 2))
	tells(t, m, "{[{0 []} {0 []} {0 []} {0 []} {5 []}] [[] [] [] []] [[] [] [] []] [4 2 3 1 0] 0}")
}

// TestN2Moves: moves from either bed, with the rack below 0, 0 and above 0, onto a needle that holds none, and onto ones that hold some.
func TestN2Moves(t *testing.T) {
	for bed := range 2 {
		for rack := -api.MaxRack; rack <= api.MaxRack; rack++ {
			for there := range 5 {
				for here := 1; here <= 4; here++ {
					to := 4 - rack
					if bed == api.Back {
						to = 4 + rack
					}
					m := machine(t, 9)
					var want []int
					for i := range there {
						does(t, m, tucks(1-bed, to, 0))
						want = append(want, i)
					}
					for i := range here {
						does(t, m, tucks(bed, 4, 1))
						want = append(want, there+i)
					}
					does(t, m, racks(rack), moves(bed, 4))
					holds(t, m, bed, 4)
					holds(t, m, 1-bed, to, want...)
				}
			}
		}
	}
}

// TestN2Drops: what is dropped is loose, behind all that was; the needle holds none, and takes new ones.
func TestN2Drops(t *testing.T) {
	m := machine(t, 2)
	does(t, m, tucks(api.Back, 1, 0), tucks(api.Front, 0, 1), tucks(api.Front, 0, 2), tucks(api.Front, 0, 3))
	does(t, m, drops(api.Front, 0))
	tells(t, m, "{[{0 []} {1 []} {2 []} {3 []}] [[] []] [[] [0]] [1 2 3] 0}")
	does(t, m, drops(api.Back, 1))
	tells(t, m, "{[{0 []} {1 []} {2 []} {3 []}] [[] []] [[] []] [1 2 3 0] 0}")
	does(t, m, tucks(api.Front, 0, 4), knits(api.Front, 0, 4), drops(api.Front, 0))
	tells(t, m, "{[{0 []} {1 []} {2 []} {3 []} {4 []} {4 [4]}] [[] []] [[] []] [1 2 3 0 5] 0}")
}

// TestN2Racks: the rack becomes To, however far it was; what needles hold stays.
func TestN2Racks(t *testing.T) {
	m := machine(t, 2)
	does(t, m, tucks(api.Front, 1, 0), tucks(api.Back, 0, 0))
	before := m.State()
	for from := -api.MaxRack; from <= api.MaxRack; from++ {
		for to := -api.MaxRack; to <= api.MaxRack; to++ {
			does(t, m, racks(from), racks(to))
			before.Rack = to
			if k := m.State(); !same(k, before) {
				t.Errorf("from %d to %d: %v", from, to, k)
			}
		}
	}
}

// TestN2Miss: it changes nothing, on needles that hold loops and that hold none.
func TestN2Miss(t *testing.T) {
	m := machine(t, 3)
	does(t, m, tucks(api.Front, 1, 0), tucks(api.Front, 2, 0), knits(api.Front, 2, 1), drops(api.Front, 1), racks(3))
	before := m.State()
	for bed := range 2 {
		for n := range 3 {
			for carrier := range api.MaxCarriers {
				does(t, m, misses(bed, n, carrier))
				if k := m.State(); !same(k, before) {
					t.Fatalf("%v has become %v", before, k)
				}
			}
		}
	}
}

// TestN2Carriers: each carrier that there is, of a knit and of a tuck.
func TestN2Carriers(t *testing.T) {
	m := machine(t, 1)
	for carrier := range api.MaxCarriers {
		does(t, m, tucks(api.Back, 0, carrier), knits(api.Back, 0, carrier))
	}
	for i, loop := range m.State().Loops {
		if loop.Carrier != i/2 {
			t.Errorf("loop %d: carrier %d", i, loop.Carrier)
		}
	}
}

// TestN2NotNamed: fields that a kind does not name mean nothing.
func TestN2NotNamed(t *testing.T) {
	for _, odd := range odds() {
		m, plain := machine(t, 3), machine(t, 3)
		for _, x := range []api.Stitch{tucks(0, 1, 1), tucks(1, 2, 2), knits(0, 1, 3), misses(1, 0, 7), racks(-1), moves(0, 1), tucks(0, 0, 4), drops(0, 0), racks(4), racks(0), moves(1, 2)} {
			full := x
			if x.Do != api.StitchRack {
				full.To = odd
			} else {
				full.Bed, full.Needle, full.Carrier = odd, odd, odd
			}
			if x.Do == api.StitchMove || x.Do == api.StitchDrop {
				full.Carrier = odd
			}
			does(t, plain, x)
			does(t, m, full)
			if k, want := m.State(), plain.State(); !same(k, want) {
				t.Fatalf("%+v: %v, not %v", full, k, want)
			}
		}
	}
}
