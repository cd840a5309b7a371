package knit_test

import (
	"cmp"
	"fmt"
	"slices"
	"testing"

	"tapestry/api"
	"tapestry/knit"
)

// What the promises say, in their own words, and stitches to hold them against.

// What became of a loop.
const (
	isHeld = iota
	isLoose
	isThrough // another one was pulled through it
)

// spot is where a loop is, and the how-manieth coming of a loop to anywhere brought it there.
type spot struct{ what, bed, needle, came int }

// machineByWords is a machine as N1 to N3 tell it. It keeps no lists of what needles hold: each loop knows where it is.
type machineByWords struct {
	needles, rack, done, comings int
	loops                        []api.Loop
	spots                        []spot
}

// found are the loops that are somewhere, in the order in which they came.
func (m *machineByWords) found(what, bed, needle int) []int {
	var out []int
	for i, s := range m.spots {
		if s.what == what && s.bed == bed && s.needle == needle {
			out = append(out, i)
		}
	}
	slices.SortFunc(out, func(x, y int) int { return cmp.Compare(m.spots[x].came, m.spots[y].came) })
	return out
}

func (m *machineByWords) held(bed, needle int) []int { return m.found(isHeld, bed, needle) }

// bring lets loops come to somewhere, one behind the other.
func (m *machineByWords) bring(loops []int, what, bed, needle int) {
	for _, i := range loops {
		m.comings++
		m.spots[i] = spot{what, bed, needle, m.comings}
	}
}

// facing is N1: the needle of the other bed that faces one; below 0: there is none.
func (m *machineByWords) facing(bed, needle int) int {
	for other := range m.needles {
		front, back := needle, other
		if bed == api.Back {
			front, back = other, needle
		}
		if back == front-m.rack {
			return other
		}
	}
	return -1
}

// refused is N3: the reasons in its order.
func (m *machineByWords) refused(x api.Stitch) api.Errno {
	is := func(kinds ...int) bool { return slices.Contains(kinds, x.Do) }
	for _, reason := range []struct {
		err  api.Errno
		fits func() bool
	}{
		{api.ErrKind, func() bool { return !is(1, 2, 3, 4, 5, 6) }},
		{api.ErrMuch, func() bool { return m.done == 4096 }},
		{api.ErrRange, func() bool { return is(6) && (x.To < -4 || x.To > 4) }},
		{api.ErrRange, func() bool { return !is(6) && (x.Bed != 0 && x.Bed != 1 || x.Needle < 0 || x.Needle >= m.needles) }},
		{api.ErrRange, func() bool { return is(1, 2, 3) && (x.Carrier < 0 || x.Carrier > 7) }},
		{api.ErrRange, func() bool { return is(4) && m.facing(x.Bed, x.Needle) < 0 }},
		{api.ErrNone, func() bool { return is(1, 4, 5) && len(m.held(x.Bed, x.Needle)) == 0 }},
		{api.ErrMany, func() bool { return is(2) && len(m.held(x.Bed, x.Needle)) == 8 }},
		{api.ErrMany, func() bool {
			return is(4) && len(m.held(x.Bed, x.Needle))+len(m.held(1-x.Bed, m.facing(x.Bed, x.Needle))) > 8
		}},
	} {
		if reason.fits() {
			return reason.err
		}
	}
	return api.OK
}

// do is N2.
func (m *machineByWords) do(x api.Stitch) api.Errno {
	if err := m.refused(x); err != api.OK {
		return err
	}
	m.done++
	held := m.held(x.Bed, x.Needle)
	switch x.Do {
	case api.StitchKnit:
		m.bring(held, isThrough, 0, 0)
		m.made(x, held)
	case api.StitchTuck:
		m.made(x, nil)
	case api.StitchMove:
		m.bring(held, isHeld, 1-x.Bed, m.facing(x.Bed, x.Needle))
	case api.StitchDrop:
		m.bring(held, isLoose, 0, 0)
	case api.StitchRack:
		m.rack = x.To
	}
	return api.OK
}

func (m *machineByWords) made(x api.Stitch, through []int) {
	m.loops = append(m.loops, api.Loop{Carrier: x.Carrier, Through: through})
	m.spots = append(m.spots, spot{})
	m.bring([]int{len(m.loops) - 1}, isHeld, x.Bed, x.Needle)
}

// state is N3.
func (m *machineByWords) state() api.Knitted {
	k := api.Knitted{Loops: m.loops, Loose: m.found(isLoose, 0, 0), Rack: m.rack}
	for i := range m.needles {
		k.Front = append(k.Front, m.held(api.Front, i))
		k.Back = append(k.Back, m.held(api.Back, i))
	}
	return k
}

// ranByWords is N4.
func ranByWords(needles int, l []api.Stitch) (api.Knitted, api.Fault) {
	if needles < 1 || needles > 128 {
		return api.Knitted{}, api.Fault{Err: api.ErrRange}
	}
	m := machineByWords{needles: needles}
	for i, x := range l {
		if err := m.do(x); err != api.OK {
			return api.Knitted{}, api.Fault{Err: err, At: i}
		}
	}
	return m.state(), api.Fault{}
}

// same: nil and empty lists are (E3).
func same(x, y api.Knitted) bool {
	return slices.EqualFunc(x.Loops, y.Loops, func(p, q api.Loop) bool {
		return p.Carrier == q.Carrier && slices.Equal(p.Through, q.Through)
	}) && slices.EqualFunc(x.Front, y.Front, slices.Equal) && slices.EqualFunc(x.Back, y.Back, slices.Equal) &&
		slices.Equal(x.Loose, y.Loose) && x.Rack == y.Rack
}

// Stitches, shorter.

func knits(bed, needle, carrier int) api.Stitch {
	return api.Stitch{Do: api.StitchKnit, Bed: bed, Needle: needle, Carrier: carrier}
}

func tucks(bed, needle, carrier int) api.Stitch {
	return api.Stitch{Do: api.StitchTuck, Bed: bed, Needle: needle, Carrier: carrier}
}

func misses(bed, needle, carrier int) api.Stitch {
	return api.Stitch{Do: api.StitchMiss, Bed: bed, Needle: needle, Carrier: carrier}
}

func moves(bed, needle int) api.Stitch {
	return api.Stitch{Do: api.StitchMove, Bed: bed, Needle: needle}
}

func drops(bed, needle int) api.Stitch {
	return api.Stitch{Do: api.StitchDrop, Bed: bed, Needle: needle}
}

func racks(to int) api.Stitch { return api.Stitch{Do: api.StitchRack, To: to} }

// machine is a new one, where there must be one.
func machine(t *testing.T, needles int) *knit.Machine {
	t.Helper()
	m, err := knit.New(needles)
	if err != api.OK || m == nil {
		t.Fatalf("%d needles: %v %d", needles, m, err)
	}
	return m
}

// does: stitches are done.
func does(t *testing.T, m *knit.Machine, l ...api.Stitch) {
	t.Helper()
	for i, x := range l {
		if err := m.Do(x); err != api.OK {
			t.Fatalf("stitch %d, %+v: %d", i, x, err)
		}
	}
}

// refuses: a stitch is answered with an error, and changes nothing.
func refuses(t *testing.T, m *knit.Machine, x api.Stitch, want api.Errno) {
	t.Helper()
	before := m.State()
	if err := m.Do(x); err != want {
		t.Errorf("%+v: %d, not %d", x, err, want)
	}
	if after := m.State(); !same(before, after) {
		t.Errorf("%+v, which is refused, makes %v of %v", x, after, before)
	}
}

// tells: what has been knitted, as a text in which nil and empty lists are the same.
func tells(t *testing.T, m *knit.Machine, want string) {
	t.Helper()
	if got := fmt.Sprint(m.State()); got != want {
		t.Fatalf("%s comes, not %s", got, want)
	}
}

// holds: what a needle holds.
func holds(t *testing.T, m *knit.Machine, bed, needle int, want ...int) {
	t.Helper()
	k := m.State()
	if got := [2][][]int{k.Front, k.Back}[bed][needle]; !slices.Equal(got, want) {
		t.Fatalf("needle %d of bed %d holds %v, not %v", needle, bed, got, want)
	}
}

// strew makes numbers without order; each seed makes others.
func strew(seed int) func(below int) int {
	s := uint32(seed)*2654435761 + 12345
	return func(below int) int {
		s = s*1664525 + 1013904223
		return int(s>>16) % below
	}
}

// strewn are stitches without order, of which many can be done, and some are wrong.
func strewn(needles, count int, next func(int) int) []api.Stitch {
	var out []api.Stitch
	for range count {
		x := api.Stitch{Do: 1 + next(6), Bed: next(2), Needle: next(needles), Carrier: next(8), To: next(9) - 4}
		if next(3) == 0 {
			x.Do = api.StitchTuck
		}
		if x.Do == api.StitchDrop && next(2) == 0 {
			x.Do = api.StitchMove
		}
		if next(40) == 0 {
			x = api.Stitch{Do: next(9) - 1, Bed: next(4) - 1, Needle: next(needles+2) - 1, Carrier: next(10) - 1, To: next(13) - 6}
		}
		out = append(out, x)
	}
	return out
}

// done are those of some stitches that a machine of so many needles does, of those that it does not refuse ahead of them.
func done(needles int, l []api.Stitch) []api.Stitch {
	m := machineByWords{needles: needles}
	var out []api.Stitch
	for _, x := range l {
		if m.do(x) == api.OK {
			out = append(out, x)
		}
	}
	return out
}
