package dobby_test

import (
	"fmt"
	"slices"
	"testing"

	"tapestry/api"
	"tapestry/dobby"
)

// What is done with a loom beside telling it events.
const (
	opens = 100 + iota // it is opened again, on the same disk, with power
	cuts               // the power goes
	comes              // and comes again
)

// pair is a loom, and one by the promises' words, with which the same is done.
type pair struct {
	l     *dobby.Loom
	d     *disk
	paper loomByWords
	all   map[int]line
}

func newPair(t *testing.T, m api.Truth, words [2]int64, all map[int]line) *pair {
	t.Helper()
	d := diskOf(words[0], words[1])
	return &pair{l: open(t, m, d), d: d, paper: openedByWords(m, words, true), all: all}
}

// step does the same with both, and tells how they differ then; nothing, if they don't.
func (p *pair) step(what int) string {
	switch what {
	case opens:
		p.d.left = -1
		p.l, _ = dobby.Open(p.paper.m, p.d)
		p.paper = openedByWords(p.paper.m, p.paper.words, true)
	case cuts:
		p.d.left, p.paper.power = 0, false
	case comes:
		p.d.left, p.paper.power = -1, true
	default:
		want, wantErr := p.paper.do(p.all, what)
		if got, err := p.l.Do(what); got != want || err != wantErr {
			return fmt.Sprintf("event %d: does %d %d, not %d %d", what, got, err, want, wantErr)
		}
	}
	if p.d.bad || !slices.Equal(p.d.words, p.paper.words[:]) {
		return fmt.Sprintf("behind %d the disk has %v (a wrong word: %v), not %v", what, p.d.words, p.d.bad, p.paper.words)
	}
	return unlike(p.l, p.paper.m, p.paper.state, p.paper.woven)
}

// refused are the events that may not come now, and a number that is none.
func (p *pair) refused() []int {
	out := []int{0, 10}
	for event := api.EventStart; event <= api.EventUnseen; event++ {
		if !p.mayCome(event) {
			out = append(out, event)
		}
	}
	return out
}

func (p *pair) mayCome(event int) bool {
	return !p.paper.dead && slices.Contains(p.all[event].states, p.paper.state)
}

// pester tells all events that may not come, which changes nothing.
func (p *pair) pester() string {
	puts := p.d.puts
	for _, event := range p.refused() {
		if how := p.step(event); how != "" {
			return how
		}
	}
	if p.d.puts != puts {
		return "an event that may not come has put a word"
	}
	return ""
}

// choices are what can be done with a loom to some end.
func (p *pair) choices() []int {
	out := []int{opens, cuts}
	if !p.paper.power {
		out[1] = comes
	}
	for event := api.EventStart; event <= api.EventUnseen; event++ {
		if p.mayCome(event) {
			out = append(out, event)
		}
	}
	return out
}

// follow does with a loom what a path says; ahead of each step, and at the end, it is pestered.
func (p *pair) follow(path []int) string {
	for _, what := range path {
		if how := p.pester(); how != "" {
			return how
		}
		if how := p.step(what); how != "" {
			return how
		}
	}
	return p.pester()
}

// walk goes all ways of so many steps from where a path leads.
func walk(t *testing.T, m api.Truth, words [2]int64, all map[int]line, path []int, left int) {
	p := newPair(t, m, words, all)
	if how := p.follow(path); how != "" {
		t.Fatalf("%v, disk %v, behind %v: %s", m, words, path, how)
	}
	if left == 0 {
		return
	}
	for _, what := range p.choices() {
		walk(t, m, words, all, append(slices.Clip(path), what), left-1)
	}
}

// TestL1ToL3AllWays: all that can be done with small cloths, in so many steps, from all words near what there is.
func TestL1ToL3AllWays(t *testing.T) {
	all := lines()
	for _, m := range []api.Truth{of("1"), of("10", "01"), of("1", "0", "1")} {
		for zero := int64(-1); zero <= int64(m.High)+1; zero++ {
			for one := int64(-1); one <= int64(m.High)+2; one++ {
				walk(t, m, [2]int64{zero, one}, all, nil, 5)
			}
		}
		walk(t, m, [2]int64{0, 0}, all, nil, 9)
	}
}

// TestL1ToL3LongWays: long ways without order, pestered and not; most go on with the cloth.
func TestL1ToL3LongWays(t *testing.T) {
	all := lines()
	done := 0
	for seed := range 3000 {
		next := strew(seed)
		high := 1 + next(12)
		m := strewn(1+next(6), high, seed)
		p := newPair(t, m, [2]int64{int64(next(high+3) - 1), int64(next(high + 3))}, all)
		for range 20 * high {
			what := p.choices()
			if next(12) > 0 && len(what) > 2 {
				what = what[2:] // an event that may come
			}
			how := p.step(what[next(len(what))])
			if how == "" && seed%2 == 0 {
				how = p.pester()
			}
			if how != "" {
				t.Fatalf("seed %d: %s", seed, how)
			}
		}
		if p.paper.state == api.LoomDone {
			done++
		}
	}
	if done < 500 {
		t.Errorf("only %d cloths were woven to their end", done)
	}
}

// room is the world round a loom: the rows that were truly beaten.
type room struct {
	l      *dobby.Loom
	lifted []bool
	rows   [][]bool
	beats  bool // the reed is to beat, and has not yet
}

// goOn does what must come next in the room, and tells the loom.
func (r *room) goOn(next func(int) int) {
	event := 0
	switch r.l.State() {
	case api.LoomIdle:
		event = api.EventStart
	case api.LoomLifting:
		r.lifted, _ = r.l.Row()
		event = api.EventShed
	case api.LoomThrowing:
		event = api.EventThrough
		if next(5) == 0 {
			event = api.EventBreak
		}
	case api.LoomBroken:
		event = api.EventMend
	case api.LoomBeating:
		r.beat()
		event = api.EventBeaten
	case api.LoomDoubt:
		event = api.EventUnseen
		if len(r.rows) > r.l.Woven() {
			event = api.EventSeen
		}
	}
	if do, err := r.l.Do(event); err == api.OK {
		r.beats = do == api.DoBeat
	}
}

func (r *room) beat() {
	if r.beats {
		r.rows = append(r.rows, r.lifted)
	}
	r.beats = false
}

// TestEachPickIsBeatenOnce: whatever breaks, however often the power goes, the rows that were beaten are those of the cloth, each once.
func TestEachPickIsBeatenOnce(t *testing.T) {
	for seed := range 3000 {
		next := strew(seed)
		m := strewn(1+next(8), 1+next(20), seed)
		d := diskOf(0, 0)
		r := room{l: open(t, m, d)}
		for left := 100000; r.l.State() != api.LoomDone && left > 0; left-- {
			switch next(8) {
			case 0:
				d.left = 0
			case 1:
				if next(2) == 0 {
					r.beat() // the reed had beaten, and nobody was told
				}
				r.beats = false
				d.left = -1
				r.l = open(t, m, d)
			case 2:
				r.l.Do(api.EventStop)
			default:
				r.goOn(next)
			}
		}
		if got := slices.Concat(r.rows...); len(r.rows) != m.High || !slices.Equal(got, m.Bits) {
			t.Fatalf("%v: %v was beaten", m, r.rows)
		}
	}
}
