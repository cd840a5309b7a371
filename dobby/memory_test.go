package dobby_test

import (
	"fmt"
	"slices"
	"testing"

	"tapestry/api"
	"tapestry/dobby"
)

// life is all that a loom tells, from where its disk has it till the cloth is woven, as a text.
func life(m api.Truth, d *disk) string {
	l, err := dobby.Open(m, d)
	if l == nil {
		return fmt.Sprint(err)
	}
	return told(l, d, func() {})
}

// told is what a loom tells to the end of its cloth; between any two calls something else comes.
func told(l *dobby.Loom, d *disk, between func()) string {
	out := ""
	for _, event := range slices.Repeat([]int{8, 1, 2, 3, 7, 6, 1, 2, 4, 5, 2, 3, 6, 2, 3, 6}, 25) {
		between()
		do, err := l.Do(event)
		between()
		row, rowErr := l.Row()
		out += fmt.Sprintln(event, do, err, l.State(), l.Woven(), row, rowErr, d.words)
	}
	return out
}

// handed are cloths, and words for their disks.
func handed() (cloths []api.Truth, words [][2]int64) {
	for i, m := range []api.Truth{of("1"), known(), strewn(64, 64, 1), strewn(3, 17, 2), strewn(64, 5, 3)} {
		cloths, words = append(cloths, m, m), append(words, [2]int64{}, [2]int64{int64(min(i, m.High-1)), int64(i + 1)})
	}
	return cloths, words
}

// TestE2OnlyReads: neither bits nor the spare room behind them are changed, nor is that room looked at.
func TestE2OnlyReads(t *testing.T) {
	cloths, words := handed()
	for i, m := range cloths {
		want := life(m, diskOf(words[i][0], words[i][1]))
		for _, what := range []bool{false, true} {
			whole := slices.Concat(m.Bits, slices.Repeat([]bool{what}, 70))
			kept := slices.Clone(whole)
			m.Bits = whole[:len(m.Bits)]
			if got := life(m, diskOf(words[i][0], words[i][1])); got != want {
				t.Errorf("%v: with spare room full of %v comes %s, not %s", m, what, got, want)
			}
			if !slices.Equal(whole, kept) {
				t.Errorf("%v was changed", m)
			}
		}
	}
}

// spoil changes a list, and the spare room behind it.
func spoil(l []bool) {
	l = l[:cap(l)]
	for i := range l {
		l[i] = !l[i]
	}
}

// TestE2NotKept: the cloth may be changed as soon as the loom is open.
func TestE2NotKept(t *testing.T) {
	cloths, words := handed()
	for i, m := range cloths {
		want := life(m, diskOf(words[i][0], words[i][1]))
		mine := m
		mine.Bits = append(slices.Clone(m.Bits), true, false)[:len(m.Bits)]
		d := diskOf(words[i][0], words[i][1])
		l := open(t, mine, d)
		spoil(mine.Bits)
		if got := told(l, d, func() { spoil(mine.Bits) }); got != want {
			t.Errorf("%v: the loom was changed with it", m)
		}
	}
}

// TestE2RowIsNew: a row, its spare room too, has nothing to do with the loom, nor with another row.
func TestE2RowIsNew(t *testing.T) {
	m := strewn(5, 9, 4)
	l := open(t, m, diskOf(0, 0))
	tell(t, l, api.EventStart)
	for y := range m.High {
		for _, event := range pick() {
			kept, _ := l.Row()
			spoilt, _ := l.Row()
			spoil(spoilt)
			if !slices.Equal(kept, rowOf(m, y)) {
				t.Fatalf("rows share memory")
			}
			isIn(t, l, m, l.State(), y)
			tell(t, l, event)
		}
	}
	other := open(t, m, diskOf(0, 0))
	tell(t, other, api.EventStart)
	tell(t, other, pick()...)
	isIn(t, other, m, api.LoomLifting, 1)
}

// TestE1OnItsOwn: what a loom tells behind Open hangs on its own events, not on what becomes of the disk's words; telling them changes nothing.
func TestE1OnItsOwn(t *testing.T) {
	m := known()
	d := diskOf(0, 0)
	l := open(t, m, d)
	tell(t, l, api.EventStart)
	for y := range m.High {
		for i, state := range []int{api.LoomLifting, api.LoomThrowing, api.LoomBeating} {
			d.words[0], d.words[1] = 77, -3
			for range 3 {
				isIn(t, l, m, state, y)
			}
			tell(t, l, pick()[i])
		}
		d.has(t, int64(y)+1, -3)
	}
	isIn(t, l, m, api.LoomDone, m.High)
}

// TestE1SeveralLooms: looms by turns, on disks of their own and on one disk, do not know of one another.
func TestE1SeveralLooms(t *testing.T) {
	m := known()
	one, other := diskOf(0, 0), diskOf(0, 0)
	want := life(m, diskOf(0, 0))
	second := open(t, of("11", "00", "10"), other)
	first := open(t, m, one)
	n := 0
	got := told(first, one, func() {
		second.Do([]int{1, 2, 7, 3, 6}[n%5])
		n++
	})
	if got != want {
		t.Errorf("%s comes, not %s", got, want)
	}

	d := diskOf(0, 0)
	first, second = open(t, m, d), open(t, m, d)
	tell(t, first, api.EventStart, api.EventStop)
	tell(t, second, api.EventStart)
	tell(t, first, pick()...)
	isIn(t, first, m, api.LoomIdle, 1)
	isIn(t, second, m, api.LoomLifting, 0)
	tell(t, second, pick()...)
	isIn(t, second, m, api.LoomLifting, 1)
	d.left = 0
	tell(t, second, api.EventShed)
	refuses(t, second, api.EventThrough, api.ErrPower)
	d.left = -1
	tell(t, first, api.EventStart) // the other one's death is not its own
	tell(t, first, pick()...)
	isIn(t, first, m, api.LoomLifting, 2)
	isIn(t, second, m, api.LoomThrowing, 1)
}

// TestE1SideBySide: looms of several goroutines tell what they tell alone.
func TestE1SideBySide(t *testing.T) {
	cloths, words := handed()
	got := make([]string, len(cloths))
	done := make(chan int)
	for i := range cloths {
		go func() {
			got[i] = life(cloths[i], diskOf(words[i][0], words[i][1]))
			done <- i
		}()
	}
	for range cloths {
		<-done
	}
	for i, m := range cloths {
		if want := life(m, diskOf(words[i][0], words[i][1])); got[i] != want {
			t.Errorf("%v: %s comes, not %s", m, got[i], want)
		}
	}
}
