package dobby_test

import (
	"fmt"
	"slices"
	"strings"
	"testing"

	"tapestry/api"
	"tapestry/dobby"
)

// What the promises say, in their own words, and cloths and disks to hold them against.

// table is L2's: event, states in which it may come, word, next state, what the loom does.
const table = `
EventStart   | LoomIdle                                           |                       | LoomLifting  | DoLift
EventShed    | LoomLifting                                        |                       | LoomThrowing | DoThrow
EventThrough | LoomThrowing                                       | word 1: Woven and one | LoomBeating  | DoBeat
EventBreak   | LoomThrowing                                       |                       | LoomBroken   | DoHalt
EventMend    | LoomBroken                                         |                       | LoomLifting  | DoLift
EventBeaten  | LoomBeating                                        | word 0: Woven and one | L3           | L3
EventStop    | LoomLifting, LoomThrowing, LoomBroken, LoomBeating |                       | as it is     | DoNothing
EventSeen    | LoomDoubt                                          | word 0: Woven and one | L3           | L3
EventUnseen  | LoomDoubt                                          | word 1: 0             | LoomIdle     | DoNothing
`

// named are the names of the table, and what they stand for.
func named() map[string]int {
	return map[string]int{
		"LoomIdle": api.LoomIdle, "LoomLifting": api.LoomLifting, "LoomThrowing": api.LoomThrowing, "LoomBroken": api.LoomBroken, "LoomBeating": api.LoomBeating, "LoomDoubt": api.LoomDoubt,
		"EventStart": api.EventStart, "EventShed": api.EventShed, "EventThrough": api.EventThrough, "EventBreak": api.EventBreak, "EventMend": api.EventMend, "EventBeaten": api.EventBeaten, "EventStop": api.EventStop, "EventSeen": api.EventSeen, "EventUnseen": api.EventUnseen,
		"DoNothing": api.DoNothing, "DoLift": api.DoLift, "DoThrow": api.DoThrow, "DoBeat": api.DoBeat, "DoHalt": api.DoHalt,
	}
}

// line is a row of the table. Word is below 0 where none stands; it becomes 0, or with isMore Woven and one. Next is of use only if neither isL3 nor stays, does only if not isL3.
type line struct {
	states              []int
	word, next, does    int
	isMore, isL3, stays bool
}

// lines are the rows of the table, by their events.
func lines() map[int]line {
	names, out := named(), map[int]line{}
	for text := range strings.Lines(strings.TrimSpace(table)) {
		parts := strings.Split(text, "|")
		for i := range parts {
			parts[i] = strings.TrimSpace(parts[i])
		}
		x := line{word: -1, next: names[parts[3]], does: names[parts[4]], isL3: parts[3] == "L3", stays: parts[3] == "as it is"}
		for state := range strings.SplitSeq(parts[1], ", ") {
			x.states = append(x.states, names[state])
		}
		if parts[2] != "" {
			x.word = int(parts[2][len("word ")] - '0')
			x.isMore = strings.HasSuffix(parts[2], "Woven and one")
		}
		out[names[parts[0]]] = x
	}
	return out
}

// loomByWords is a loom as L1 to L3 tell it. It remembers which events have come since it was opened.
type loomByWords struct {
	m            api.Truth
	words        [2]int64
	power        bool
	state, woven int
	dead         bool
	came         []int
}

// openedByWords is L1.
func openedByWords(m api.Truth, words [2]int64, power bool) loomByWords {
	l := loomByWords{m: m, words: words, power: power}
	if 0 <= words[0] && words[0] <= int64(m.High) {
		l.woven = int(words[0])
	}
	l.state = api.LoomIdle
	if words[1] == int64(l.woven+1) {
		l.state = api.LoomDoubt
	}
	if l.woven == m.High {
		l.state = api.LoomDone
	}
	return l
}

// row is L1: that of the first pick that is not woven.
func (l *loomByWords) row() ([]bool, api.Errno) {
	if slices.Contains([]int{api.LoomIdle, api.LoomDoubt, api.LoomDone}, l.state) {
		return nil, api.ErrState
	}
	return rowOf(l.m, l.woven), api.OK
}

// do is L2.
func (l *loomByWords) do(all map[int]line, event int) (int, api.Errno) {
	x, isEvent := all[event]
	if !isEvent {
		return 0, api.ErrKind
	}
	if l.dead || !slices.Contains(x.states, l.state) {
		return 0, api.ErrState
	}
	if x.word >= 0 && !l.power {
		l.dead = true
		return 0, api.ErrPower
	}
	if x.word >= 0 {
		l.words[x.word] = 0
		if x.isMore {
			l.words[x.word] = int64(l.woven + 1)
		}
	}
	l.came = append(slices.Clip(l.came), event)
	if x.isL3 {
		x.next, x.does = l.behindPick(event)
	}
	if !x.stays {
		l.state = x.next
	}
	return x.does, api.OK
}

// behindPick is L3.
func (l *loomByWords) behindPick(event int) (next, does int) {
	l.woven++
	if l.woven == l.m.High {
		return api.LoomDone, api.DoHalt
	}
	ahead := l.came[:len(l.came)-1]
	for i, e := range ahead {
		if e == api.EventStop && !slices.Contains(ahead[i:], api.EventBeaten) {
			return api.LoomIdle, api.DoHalt
		}
	}
	if event == api.EventSeen {
		return api.LoomIdle, api.DoHalt
	}
	return api.LoomLifting, api.DoLift
}

// disk is a disk whose power may go: left is how many words can be put yet (below 0: any number). It counts how often it was asked to put one.
type disk struct {
	words   []int64
	left    int
	puts    int
	bad     bool   // a word was asked for, or put, that is none of the loom's
	putting func() // called ahead of each word that is put
}

func (d *disk) Size() int { return len(d.words) }

func (d *disk) Get(i int) int64 {
	if i < 0 || i > 1 {
		d.bad = true
		return 0
	}
	return d.words[i]
}

func (d *disk) Put(i int, w int64) bool {
	d.puts++
	if d.putting != nil {
		d.putting()
	}
	if i < 0 || i > 1 {
		d.bad = true
		return false
	}
	if d.left == 0 {
		return false
	}
	d.left--
	d.words[i] = w
	return true
}

// diskOf is a disk of some words, whose power stays.
func diskOf(words ...int64) *disk { return &disk{words: words, left: -1} }

// has: the disk's words, and nothing asked of it that it does not have.
func (d *disk) has(t *testing.T, words ...int64) {
	t.Helper()
	if d.bad || !slices.Equal(d.words, words) {
		t.Fatalf("the disk has %v (a wrong word: %v), not %v", d.words, d.bad, words)
	}
}

// of is a cloth written down, a text a row.
func of(rows ...string) api.Truth {
	m := api.Truth{Wide: len(rows[0]), High: len(rows)}
	for _, row := range rows {
		for _, sign := range row {
			m.Bits = append(m.Bits, sign == '1')
		}
	}
	return m
}

// rowOf is a row, in memory of its own.
func rowOf(m api.Truth, y int) []bool {
	var out []bool
	for x := range m.Wide {
		out = append(out, m.Bits[y*m.Wide+x])
	}
	return out
}

// strew makes numbers without order; each seed makes others.
func strew(seed int) func(below int) int {
	s := uint32(seed)*2654435761 + 12345
	return func(below int) int {
		s = s*1664525 + 1013904223
		return int(s>>16) % below
	}
}

// strewn is a cloth without order.
func strewn(wide, high, seed int) api.Truth {
	next := strew(seed)
	m := api.Truth{Wide: wide, High: high}
	for range wide * high {
		m.Bits = append(m.Bits, next(2) == 0)
	}
	return m
}

// open is the loom of a cloth and a disk, where there must be one.
func open(t *testing.T, m api.Truth, d api.Disk) *dobby.Loom {
	t.Helper()
	l, err := dobby.Open(m, d)
	if err != api.OK || l == nil {
		t.Fatalf("%v: %v %d", m, l, err)
	}
	return l
}

// does: an event may come, and the loom does something.
func does(t *testing.T, l *dobby.Loom, event, want int) {
	t.Helper()
	if got, err := l.Do(event); err != api.OK || got != want {
		t.Fatalf("event %d: does %d %d, not %d", event, got, err, want)
	}
}

// refuses: an event is answered with an error, and nothing beside it.
func refuses(t *testing.T, l *dobby.Loom, event int, want api.Errno) {
	t.Helper()
	if got, err := l.Do(event); err != want || got != 0 {
		t.Fatalf("event %d: does %d %d, not 0 %d", event, got, err, want)
	}
}

// unlike tells how a loom differs from one in a state, with so many picks woven, and the row that goes with these; nothing, if it doesn't.
func unlike(l *dobby.Loom, m api.Truth, state, woven int) string {
	if l.State() != state || l.Woven() != woven {
		return fmt.Sprintf("state %d, woven %d, not %d and %d", l.State(), l.Woven(), state, woven)
	}
	paper := loomByWords{m: m, state: state, woven: woven}
	want, wantErr := paper.row()
	if got, err := l.Row(); err != wantErr || !slices.Equal(got, want) {
		return fmt.Sprintf("state %d, woven %d: row %v %d, not %v %d", state, woven, got, err, want, wantErr)
	}
	return ""
}

// isIn: all that a loom tells.
func isIn(t *testing.T, l *dobby.Loom, m api.Truth, state, woven int) {
	t.Helper()
	if how := unlike(l, m, state, woven); how != "" {
		t.Fatal(how)
	}
}

// tell tells events of which each may come, whatever the loom does.
func tell(t *testing.T, l *dobby.Loom, events ...int) {
	t.Helper()
	for i, event := range events {
		if _, err := l.Do(event); err != api.OK {
			t.Fatalf("event %d of %v: %d", i, events, err)
		}
	}
}

// pick is what comes for a pick behind EventStart, or behind the pick ahead of it.
func pick() []int { return []int{api.EventShed, api.EventThrough, api.EventBeaten} }
