package dobby_test

import (
	"fmt"
	"math"
	"slices"
	"testing"

	"tapestry/api"
	"tapestry/dobby"
)

// noEvents are numbers of which none is an event.
func noEvents() []int {
	return []int{0, -1, 10, 11, -9, 16, 1 << 8, 1<<8 + 1, 1<<32 + 1, math.MaxInt, math.MinInt, math.MinInt + 1}
}

// known is a cloth of four picks, all unlike.
func known() api.Truth { return of("100", "010", "001", "111") }

// way is how a loom of known comes into a state.
type way struct {
	words        [2]int64 // of the disk when it is opened
	events       []int
	state, woven int
}

// ways are some for each state, at the first pick, in the midst, and at the last one.
func ways() []way {
	var out []way
	for woven := range 4 {
		n := int64(woven)
		to := func(state int, events ...int) { out = append(out, way{[2]int64{n, n}, events, state, woven}) }
		to(api.LoomIdle)
		to(api.LoomLifting, 1)
		to(api.LoomThrowing, 1, 2)
		to(api.LoomBeating, 1, 2, 3)
		to(api.LoomBroken, 1, 2, 4)
		to(api.LoomLifting, 1, 2, 4, 5)
		to(api.LoomThrowing, 1, 2, 4, 5, 2)
		to(api.LoomLifting, 1, 7)
		to(api.LoomThrowing, 1, 2, 7)
		to(api.LoomBeating, 1, 2, 3, 7)
		to(api.LoomBroken, 1, 2, 4, 7)
		to(api.LoomLifting, 1, 2, 4, 7, 5)
		out = append(out,
			way{[2]int64{n, n + 1}, nil, api.LoomDoubt, woven},
			way{[2]int64{n, n + 1}, []int{9}, api.LoomIdle, woven})
		if woven > 0 {
			out = append(out,
				way{[2]int64{n - 1, n - 1}, []int{1, 2, 3, 6}, api.LoomLifting, woven},
				way{[2]int64{n - 1, n - 1}, []int{1, 2, 3, 7, 6}, api.LoomIdle, woven},
				way{[2]int64{n - 1, n}, []int{8}, api.LoomIdle, woven})
		}
	}
	return append(out,
		way{[2]int64{4, 4}, nil, api.LoomDone, 4},
		way{[2]int64{3, 3}, []int{1, 2, 3, 6}, api.LoomDone, 4},
		way{[2]int64{3, 3}, []int{1, 2, 3, 7, 6}, api.LoomDone, 4},
		way{[2]int64{3, 4}, []int{8}, api.LoomDone, 4})
}

// goes opens a loom and brings it where a way leads.
func (w way) goes(t *testing.T) (*dobby.Loom, *disk) {
	t.Helper()
	d := diskOf(w.words[0], w.words[1])
	l := open(t, known(), d)
	tell(t, l, w.events...)
	isIn(t, l, known(), w.state, w.woven)
	return l, d
}

// TestL2OnePick: the document's example, and the words that come of it.
func TestL2OnePick(t *testing.T) {
	m := known()
	d := diskOf(0, 0)
	l := open(t, m, d)
	isIn(t, l, m, api.LoomIdle, 0)
	does(t, l, api.EventStart, api.DoLift)
	isIn(t, l, m, api.LoomLifting, 0)
	d.has(t, 0, 0)
	does(t, l, api.EventShed, api.DoThrow)
	isIn(t, l, m, api.LoomThrowing, 0)
	d.has(t, 0, 0)
	does(t, l, api.EventThrough, api.DoBeat)
	isIn(t, l, m, api.LoomBeating, 0)
	d.has(t, 0, 1)
	does(t, l, api.EventBeaten, api.DoLift)
	isIn(t, l, m, api.LoomLifting, 1)
	d.has(t, 1, 1)
}

// TestL2WholeCloths: from Start to LoomDone, with all that can be seen behind each step.
func TestL2WholeCloths(t *testing.T) {
	for high := 1; high <= api.MaxTruth; high++ {
		m := strewn(1+high*7%api.MaxTruth, high, high)
		d := diskOf(0, 0)
		l := open(t, m, d)
		does(t, l, api.EventStart, api.DoLift)
		for y := range high {
			n := int64(y)
			isIn(t, l, m, api.LoomLifting, y)
			does(t, l, api.EventShed, api.DoThrow)
			isIn(t, l, m, api.LoomThrowing, y)
			d.has(t, n, n)
			does(t, l, api.EventThrough, api.DoBeat)
			isIn(t, l, m, api.LoomBeating, y)
			d.has(t, n, n+1)
			want := api.DoLift
			if y == high-1 {
				want = api.DoHalt
			}
			does(t, l, api.EventBeaten, want)
			d.has(t, n+1, n+1)
		}
		isIn(t, l, m, api.LoomDone, high)
		if d.puts != 2*high {
			t.Errorf("%d picks: %d words were put", high, d.puts)
		}
	}
}

// TestL2Table: each event in each state, by whatever way the loom came there: what the table says, or that it may not come.
func TestL2Table(t *testing.T) {
	all := lines()
	if len(all) != 9 {
		t.Fatalf("%d lines", len(all))
	}
	for _, w := range ways() {
		for event, x := range all {
			t.Run(fmt.Sprint(w, event), func(t *testing.T) {
				l, d := w.goes(t)
				words := slices.Clone(d.words)
				if !slices.Contains(x.states, w.state) {
					refuses(t, l, event, api.ErrState)
					isIn(t, l, known(), w.state, w.woven)
					d.has(t, words...)
					return
				}
				got, err := l.Do(event)
				if err != api.OK {
					t.Fatalf("%d", err)
				}
				if x.word >= 0 {
					words[x.word] = 0
				}
				if x.isMore {
					words[x.word] = int64(w.woven) + 1
				}
				d.has(t, words...)
				if x.isL3 {
					return // its tests stand beside this one
				}
				if x.stays {
					x.next = w.state
				}
				if got != x.does {
					t.Errorf("does %d, not %d", got, x.does)
				}
				isIn(t, l, known(), x.next, w.woven)
			})
		}
	}
}

// TestL2NoEvents: numbers that are no events, in each state, of dead looms too.
func TestL2NoEvents(t *testing.T) {
	for _, w := range ways() {
		l, d := w.goes(t)
		words, puts := slices.Clone(d.words), d.puts
		for _, n := range noEvents() {
			refuses(t, l, n, api.ErrKind)
			isIn(t, l, known(), w.state, w.woven)
		}
		d.has(t, words...)
		if d.puts != puts {
			t.Errorf("%v: a word was put", w)
		}
	}
	l := open(t, known(), &disk{words: []int64{0, 1}})
	refuses(t, l, api.EventSeen, api.ErrPower)
	for _, n := range noEvents() {
		refuses(t, l, n, api.ErrKind)
	}
}

// TestL2Breaks: a thread that breaks, over and over, at each pick: it is lifted anew, and no word is put.
func TestL2Breaks(t *testing.T) {
	m := known()
	d := diskOf(0, 0)
	l := open(t, m, d)
	tell(t, l, api.EventStart)
	for y := range m.High {
		words := slices.Clone(d.words)
		for range 3 {
			does(t, l, api.EventShed, api.DoThrow)
			does(t, l, api.EventBreak, api.DoHalt)
			isIn(t, l, m, api.LoomBroken, y)
			does(t, l, api.EventMend, api.DoLift)
			isIn(t, l, m, api.LoomLifting, y)
			d.has(t, words...)
		}
		tell(t, l, pick()...)
	}
	isIn(t, l, m, api.LoomDone, 4)
	d.has(t, 4, 4)
}

// TestL2Unseen: the pick in doubt was not beaten: it is woven anew, and in doubt again only once it was to be beaten again.
func TestL2Unseen(t *testing.T) {
	m := known()
	for y := range m.High {
		n := int64(y)
		d := diskOf(n, n+1)
		l := open(t, m, d)
		isIn(t, l, m, api.LoomDoubt, y)
		does(t, l, api.EventUnseen, api.DoNothing)
		isIn(t, l, m, api.LoomIdle, y)
		d.has(t, n, 0)
		isIn(t, open(t, m, d), m, api.LoomIdle, y)
		does(t, l, api.EventStart, api.DoLift)
		isIn(t, l, m, api.LoomLifting, y)
		does(t, l, api.EventShed, api.DoThrow)
		isIn(t, open(t, m, d), m, api.LoomIdle, y)
		does(t, l, api.EventThrough, api.DoBeat)
		isIn(t, open(t, m, d), m, api.LoomDoubt, y)
		tell(t, l, api.EventBeaten)
		d.has(t, n+1, n+1)
	}
}

// TestL2WordOfDoubt: words that a loom took for 0 are written as it counts, not as they were.
func TestL2WordOfDoubt(t *testing.T) {
	m := known()
	for _, word := range []int64{-1, 5, math.MaxInt64, math.MinInt64} {
		d := diskOf(word, 1)
		l := open(t, m, d)
		does(t, l, api.EventUnseen, api.DoNothing)
		d.has(t, word, 0)
		tell(t, l, api.EventStart, api.EventShed, api.EventThrough)
		d.has(t, word, 1)
		does(t, l, api.EventBeaten, api.DoLift)
		d.has(t, 1, 1)
		isIn(t, l, m, api.LoomLifting, 1)
	}
}

// TestL2OtherWords: of a disk of more words the others stay as they are.
func TestL2OtherWords(t *testing.T) {
	m := of("10", "01")
	d := diskOf(0, 0, 7, -7, 42)
	l := open(t, m, d)
	tell(t, l, api.EventStart)
	tell(t, l, pick()...)
	d.has(t, 1, 1, 7, -7, 42)
	tell(t, l, api.EventShed, api.EventThrough)
	d.has(t, 1, 2, 7, -7, 42)
	tell(t, open(t, m, d), api.EventSeen)
	d.has(t, 2, 2, 7, -7, 42)
}

// TestL2WordFirst: while a word is put the loom is still as it was.
func TestL2WordFirst(t *testing.T) {
	for _, w := range ways() {
		for event, x := range lines() {
			if x.word < 0 || !slices.Contains(x.states, w.state) {
				continue
			}
			l, d := w.goes(t)
			asked := d.puts
			d.putting = func() { isIn(t, l, known(), w.state, w.woven) }
			tell(t, l, event)
			if d.puts != asked+1 {
				t.Errorf("%v, event %d: %d words were put", w, event, d.puts-asked)
			}
		}
	}
}
