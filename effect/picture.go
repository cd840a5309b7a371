package effect

import (
	"slices"

	"tapestry/api"
)

// none: a thread has no colour yet.
const none = -1

// picture is a chart whose threads are given colours, so that each cell can be shown.
type picture struct {
	chart   api.Chart
	colours []int // of the ends, and behind them of the picks
}

// blank is a picture whose threads have no colours.
func blank(c api.Chart) picture {
	return picture{c, slices.Repeat([]int{none}, c.Wide+c.High)}
}

// giveAll gives each thread that has no colour the least one that it may have, from the first one on; false, if there is none for one of them.
// It never goes back: where a thread with a colour crosses one without, it shows the cell, or it would have asked for it.
// So what has no colour yet hangs on nothing that has one, and if no colour will do for it, none ever would.
func (p picture) giveAll() bool {
	for thread := range p.colours {
		if p.colours[thread] == none && !p.giveLeast(thread) {
			return false
		}
	}
	return true
}

// giveLeast gives a thread the least colour that asks nothing of others that they cannot do; false, if there is none.
func (p picture) giveLeast(thread int) bool {
	before := slices.Clone(p.colours)
	for colour := range api.MaxColour {
		if p.give(thread, colour) {
			return true
		}
		copy(p.colours, before)
	}
	return false
}

// give gives a thread a colour, and all others those that come of it: a cell that is not of a thread's colour asks for its own of the thread that crosses there.
// It tells whether no thread is asked for two.
func (p picture) give(thread, colour int) bool {
	if p.colours[thread] != none {
		return p.colours[thread] == colour
	}
	p.colours[thread] = colour
	from, to := p.crossing(thread)
	for other := from; other < to; other++ {
		if cell := p.cell(thread, other); cell != colour && !p.give(other, cell) {
			return false
		}
	}
	return true
}

// crossing is from which thread on, and up to which, those are that cross one: picks an end, ends a pick.
func (p picture) crossing(thread int) (from, to int) {
	if thread < p.chart.Wide {
		return p.chart.Wide, len(p.colours)
	}
	return 0, p.chart.Wide
}

// cell is the colour where an end and a pick cross, either of which may be the one.
func (p picture) cell(one, other int) int {
	end, pick := min(one, other), max(one, other)-p.chart.Wide
	return p.chart.Cells[pick*p.chart.Wide+end]
}

// strung are the threads; the ends have no spare room behind them, since the picks stand there.
func (p picture) strung() api.Strung {
	wide, all := p.chart.Wide, len(p.colours)
	return api.Strung{Ends: p.colours[:wide:wide], Picks: p.colours[wide:all:all]}
}
