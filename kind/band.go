package kind

import "tapestry/api"

// bandMove takes x to by - x, if back, else to x + by; and the band upside down, if over.
type bandMove struct {
	back, over bool
	by         int
}

// bandKind is the kind of a band that nothing is wrong with.
func bandKind(c api.Chart) int {
	side := bandKept(c, bandMove{back: true}, c.Wide)
	round := bandKept(c, bandMove{back: true, over: true}, c.Wide)
	over := bandKept(c, bandMove{over: true}, 1)
	switch {
	case side && over:
		return api.SpinningJump
	case side && round:
		return api.SpinningSide
	case round:
		return api.SpinningHop
	case side:
		return api.Sidle
	case over:
		return api.Jump
	case bandKept(c, bandMove{over: true, by: 1}, c.Wide):
		return api.Step
	}
	return api.Hop
}

// bandKept tells whether a move keeps a band with its own by, or with a greater one below end.
func bandKept(c api.Chart, f bandMove, end int) bool {
	for ; f.by < end; f.by++ {
		if bandKeeps(c, f) {
			return true
		}
	}
	return false
}

// bandKeeps tells whether at each point of a band stands the same colour as at that to which a move takes it.
func bandKeeps(c api.Chart, f bandMove) bool {
	for y := range c.High {
		for x := range c.Wide {
			if c.Cells[y*c.Wide+x] != c.Cells[bandCell(c, f, x, y)] {
				return false
			}
		}
	}
	return true
}

// bandCell is the cell to which a move takes that of a point, where by is from 0 on below Wide.
func bandCell(c api.Chart, f bandMove, x, y int) int {
	if f.back {
		x = c.Wide - x
	}
	if f.over {
		y = c.High - 1 - y
	}
	return y*c.Wide + (x+f.by)%c.Wide
}
