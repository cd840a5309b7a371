package dobby_test

import (
	"fmt"
	"slices"
	"testing"

	"tapestry/api"
	"tapestry/dobby"
)

// isDead: every event that there is may not come, whether there is power or not; the loom tells what it told, and asks for no word to be put.
func isDead(t *testing.T, l *dobby.Loom, d *disk, m api.Truth, state, woven int) {
	t.Helper()
	words, puts, left := slices.Clone(d.words), d.puts, d.left
	for _, power := range []int{0, -1, 5} {
		d.left = power
		for event := api.EventStart; event <= api.EventUnseen; event++ {
			refuses(t, l, event, api.ErrState)
		}
		for _, n := range noEvents() {
			refuses(t, l, n, api.ErrKind)
		}
		isIn(t, l, m, state, woven)
	}
	d.has(t, words...)
	if d.puts != puts {
		t.Fatalf("a dead loom has asked for %d words to be put", d.puts-puts)
	}
	d.left = left
}

// TestL2PowerOff: each event that puts a word, in each state in which it may come, however the loom came there.
func TestL2PowerOff(t *testing.T) {
	tried := 0
	for _, w := range ways() {
		for event, x := range lines() {
			if x.word < 0 || !slices.Contains(x.states, w.state) {
				continue
			}
			tried++
			t.Run(fmt.Sprint(w, event), func(t *testing.T) {
				l, d := w.goes(t)
				words := slices.Clone(d.words)
				d.left = 0
				refuses(t, l, event, api.ErrPower)
				isIn(t, l, known(), w.state, w.woven)
				d.has(t, words...)
				isDead(t, l, d, known(), w.state, w.woven)
				again := openedByWords(known(), [2]int64(words), true)
				isIn(t, open(t, known(), d), known(), again.state, again.woven)
			})
		}
	}
	if tried < 4*4 {
		t.Errorf("only %d are tried", tried)
	}
}

// TestL2PowerAtEachWord: a cloth is woven, and the power goes at each word that is put; then the loom is opened again, and the rest is woven.
func TestL2PowerAtEachWord(t *testing.T) {
	for high := 1; high <= 6; high++ {
		m := strewn(4, high, high)
		for last := range 2 * high {
			d := &disk{words: []int64{0, 0}, left: last}
			l := open(t, m, d)
			tell(t, l, api.EventStart)
			y := last / 2
			for range y {
				tell(t, l, pick()...)
			}
			tell(t, l, api.EventShed)
			n := int64(y)
			if last%2 == 0 {
				refuses(t, l, api.EventThrough, api.ErrPower)
				d.has(t, n, n)
				isDead(t, l, d, m, api.LoomThrowing, y)
				d.left = -1
				l = open(t, m, d)
				isIn(t, l, m, api.LoomIdle, y)
			} else {
				tell(t, l, api.EventThrough)
				refuses(t, l, api.EventBeaten, api.ErrPower)
				d.has(t, n, n+1)
				isDead(t, l, d, m, api.LoomBeating, y)
				d.left = -1
				l = open(t, m, d)
				isIn(t, l, m, api.LoomDoubt, y)
				tell(t, l, api.EventUnseen)
			}
			tell(t, l, api.EventStart)
			for range high - y {
				tell(t, l, pick()...)
			}
			isIn(t, l, m, api.LoomDone, high)
			d.has(t, int64(high), int64(high))
		}
	}
}

// TestL2PowerInDoubt: without power nobody can say what was seen; who opens the loom again is still in doubt.
func TestL2PowerInDoubt(t *testing.T) {
	m := known()
	for y := range m.High {
		for _, event := range []int{api.EventSeen, api.EventUnseen} {
			n := int64(y)
			d := &disk{words: []int64{n, n + 1}}
			l := open(t, m, d)
			refuses(t, l, event, api.ErrPower)
			isDead(t, l, d, m, api.LoomDoubt, y)
			d.has(t, n, n+1)
			isIn(t, open(t, m, d), m, api.LoomDoubt, y)
		}
	}
}

// TestL2NoWordNoPower: events that put no word come without power too, and kill no loom.
func TestL2NoWordNoPower(t *testing.T) {
	m := known()
	d := &disk{words: []int64{0, 0}}
	l := open(t, m, d)
	does(t, l, api.EventStart, api.DoLift)
	does(t, l, api.EventStop, api.DoNothing)
	does(t, l, api.EventShed, api.DoThrow)
	does(t, l, api.EventBreak, api.DoHalt)
	does(t, l, api.EventStop, api.DoNothing)
	does(t, l, api.EventMend, api.DoLift)
	does(t, l, api.EventShed, api.DoThrow)
	refuses(t, l, api.EventBeaten, api.ErrState) // not now, whether there is power or not
	isIn(t, l, m, api.LoomThrowing, 0)
	if d.puts != 0 {
		t.Errorf("%d words were asked to be put", d.puts)
	}
	d.left = -1
	does(t, l, api.EventThrough, api.DoBeat)
	d.has(t, 0, 1)
	does(t, l, api.EventBeaten, api.DoHalt)
	d.has(t, 1, 1)
}
