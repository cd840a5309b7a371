package dobby_test

import (
	"testing"

	"tapestry/api"
)

// stopped are events with a stop ahead of the one that has that place among them.
func stopped(events []int, at int) []int {
	var out []int
	out = append(out, events[:at]...)
	out = append(out, api.EventStop)
	return append(out, events[at:]...)
}

// TestL3Goes: behind a pick that is not the last one the loom goes on; behind the last one it is done.
func TestL3Goes(t *testing.T) {
	for high := 1; high <= 5; high++ {
		m := strewn(3, high, high)
		for y := range high {
			d := diskOf(int64(y), 0)
			l := open(t, m, d)
			tell(t, l, api.EventStart, api.EventShed, api.EventThrough)
			if y+1 == high {
				does(t, l, api.EventBeaten, api.DoHalt)
				isIn(t, l, m, api.LoomDone, high)
			} else {
				does(t, l, api.EventBeaten, api.DoLift)
				isIn(t, l, m, api.LoomLifting, y+1)
			}
			d.has(t, int64(y)+1, int64(y)+1)
		}
	}
}

// TestL3Seen: behind EventSeen the loom halts, and waits for a start, which it may have where picks are left.
func TestL3Seen(t *testing.T) {
	for high := 1; high <= 5; high++ {
		m := strewn(3, high, high)
		for y := range high {
			d := diskOf(int64(y), int64(y)+1)
			l := open(t, m, d)
			isIn(t, l, m, api.LoomDoubt, y)
			does(t, l, api.EventSeen, api.DoHalt)
			d.has(t, int64(y)+1, int64(y)+1)
			if y+1 == high {
				isIn(t, l, m, api.LoomDone, high)
				refuses(t, l, api.EventStart, api.ErrState)
				continue
			}
			isIn(t, l, m, api.LoomIdle, y+1)
			does(t, l, api.EventStart, api.DoLift)
			isIn(t, l, m, api.LoomLifting, y+1)
			tell(t, l, api.EventShed, api.EventThrough)
			if y+2 < high { // what was seen is no stop for the next pick
				does(t, l, api.EventBeaten, api.DoLift)
			}
		}
	}
}

// TestL3Stops: a stop in each state in which it may come, at each pick: the loom halts behind that pick, once.
func TestL3Stops(t *testing.T) {
	for _, events := range [][]int{
		{api.EventShed, api.EventThrough, api.EventBeaten},
		{api.EventShed, api.EventBreak, api.EventMend, api.EventShed, api.EventThrough, api.EventBeaten},
	} {
		for at := range events {
			m := strewn(2, 6, at)
			d := diskOf(0, 0)
			l := open(t, m, d)
			for y := range m.High - 1 {
				n := int64(y) + 1
				does(t, l, api.EventStart, api.DoLift)
				with := stopped(events, at)
				tell(t, l, with[:len(with)-1]...)
				does(t, l, api.EventBeaten, api.DoHalt)
				isIn(t, l, m, api.LoomIdle, y+1)
				d.has(t, n, n)
			}
			does(t, l, api.EventStart, api.DoLift) // the last pick, without a stop
			tell(t, l, events[:len(events)-1]...)
			does(t, l, api.EventBeaten, api.DoHalt)
			isIn(t, l, m, api.LoomDone, m.High)
		}
	}
}

// TestL3StopAsItIs: a stop leaves the loom in its state, and it does nothing then; how often it comes is the same.
func TestL3StopAsItIs(t *testing.T) {
	m := known()
	for _, x := range []struct {
		events []int
		state  int
	}{
		{[]int{api.EventStart}, api.LoomLifting},
		{[]int{api.EventStart, api.EventShed}, api.LoomThrowing},
		{[]int{api.EventStart, api.EventShed, api.EventBreak}, api.LoomBroken},
		{[]int{api.EventStart, api.EventShed, api.EventThrough}, api.LoomBeating},
	} {
		for times := 1; times <= 4; times++ {
			d := diskOf(0, 0)
			l := open(t, m, d)
			tell(t, l, x.events...)
			puts := d.puts
			for range times {
				does(t, l, api.EventStop, api.DoNothing)
				isIn(t, l, m, x.state, 0)
			}
			if d.puts != puts {
				t.Errorf("state %d: a stop has put a word", x.state)
			}
			switch x.state {
			case api.LoomLifting:
				tell(t, l, api.EventShed, api.EventThrough)
			case api.LoomThrowing:
				tell(t, l, api.EventThrough)
			case api.LoomBroken:
				tell(t, l, api.EventMend, api.EventShed, api.EventThrough)
			}
			does(t, l, api.EventBeaten, api.DoHalt)
			isIn(t, l, m, api.LoomIdle, 1)
		}
	}
}

// TestL3StopDoneWith: behind the halt the next picks are woven without one, till a stop comes again.
func TestL3StopDoneWith(t *testing.T) {
	m := strewn(2, 5, 3)
	l := open(t, m, diskOf(0, 0))
	tell(t, l, api.EventStart, api.EventStop, api.EventStop)
	tell(t, l, pick()...)
	isIn(t, l, m, api.LoomIdle, 1)
	tell(t, l, api.EventStart)
	tell(t, l, pick()...)
	isIn(t, l, m, api.LoomLifting, 2)
	tell(t, l, pick()...)
	isIn(t, l, m, api.LoomLifting, 3)
	tell(t, l, api.EventShed, api.EventStop, api.EventThrough)
	does(t, l, api.EventBeaten, api.DoHalt)
	isIn(t, l, m, api.LoomIdle, 4)
}

// TestL3StopAheadOfTheLast: a stop at the last pick changes nothing: the loom is done.
func TestL3StopAheadOfTheLast(t *testing.T) {
	for at := range pick() {
		for _, m := range []api.Truth{of("1"), of("10", "01", "11")} {
			d := diskOf(int64(m.High-1), 0)
			l := open(t, m, d)
			tell(t, l, api.EventStart)
			with := stopped(pick(), at)
			tell(t, l, with[:len(with)-1]...)
			does(t, l, api.EventBeaten, api.DoHalt)
			isIn(t, l, m, api.LoomDone, m.High)
			d.has(t, int64(m.High), int64(m.High))
			isIn(t, open(t, m, d), m, api.LoomDone, m.High)
		}
	}
}

// TestL3StopNotBeforeItsTime: a stop that may not come, as the loom is idle or in doubt, is none later.
func TestL3StopNotBeforeItsTime(t *testing.T) {
	m := known()
	for _, x := range []struct {
		words [2]int64
		first []int
	}{
		{[2]int64{0, 0}, nil},
		{[2]int64{1, 1}, nil},
		{[2]int64{1, 2}, []int{api.EventUnseen}},
		{[2]int64{0, 1}, []int{api.EventSeen}},
	} {
		l := open(t, m, diskOf(x.words[0], x.words[1]))
		refuses(t, l, api.EventStop, api.ErrState)
		tell(t, l, x.first...)
		refuses(t, l, api.EventStop, api.ErrState)
		tell(t, l, api.EventStart, api.EventShed, api.EventThrough)
		does(t, l, api.EventBeaten, api.DoLift)
	}
}

// TestL3StopForgotten: a loom that is opened anew knows of no stop ahead of that.
func TestL3StopForgotten(t *testing.T) {
	m := known()
	for _, events := range [][]int{
		{api.EventStart, api.EventStop},
		{api.EventStart, api.EventShed, api.EventStop},
		{api.EventStart, api.EventShed, api.EventBreak, api.EventStop},
	} {
		d := diskOf(0, 0)
		tell(t, open(t, m, d), events...)
		l := open(t, m, d)
		isIn(t, l, m, api.LoomIdle, 0)
		tell(t, l, api.EventStart, api.EventShed, api.EventThrough)
		does(t, l, api.EventBeaten, api.DoLift)
	}
	d := diskOf(0, 0)
	tell(t, open(t, m, d), api.EventStart, api.EventShed, api.EventThrough, api.EventStop)
	l := open(t, m, d)
	isIn(t, l, m, api.LoomDoubt, 0)
	tell(t, l, api.EventUnseen, api.EventStart, api.EventShed, api.EventThrough)
	does(t, l, api.EventBeaten, api.DoLift)
}

// TestL3Done: a loom that is done takes no event any more.
func TestL3Done(t *testing.T) {
	m := of("10", "01")
	byBeating, bySeeing, byOpening := diskOf(1, 1), diskOf(1, 2), diskOf(2, 2)
	beaten, seen, opened := open(t, m, byBeating), open(t, m, bySeeing), open(t, m, byOpening)
	tell(t, beaten, api.EventStart)
	tell(t, beaten, pick()...)
	tell(t, seen, api.EventSeen)
	for event := api.EventStart; event <= api.EventUnseen; event++ {
		refuses(t, beaten, event, api.ErrState)
		refuses(t, seen, event, api.ErrState)
		refuses(t, opened, event, api.ErrState)
	}
	isIn(t, beaten, m, api.LoomDone, 2)
	isIn(t, seen, m, api.LoomDone, 2)
	isIn(t, opened, m, api.LoomDone, 2)
	byBeating.has(t, 2, 2)
	bySeeing.has(t, 2, 2)
	byOpening.has(t, 2, 2)
}
