package dye

import "tapestry/api"

// sixteenths: so many are a whole; light is counted by them.
const sixteenths = 16

// picture is made of two colours, dot by dot: light is what each of its numbers is, with what its neighbours have given it, row by row.
type picture struct {
	wide  int
	light []int
	lost  int
}

// dot is the next dot; what is left of its light is given away.
func (p *picture) dot(at int) int {
	dot := 0
	if 2*p.light[at] >= sixteenths*api.White {
		dot = api.White
	}
	left := p.light[at] - sixteenths*dot
	right, belowLeft, below := 7*left/sixteenths, 3*left/sixteenths, 5*left/sixteenths
	p.give(at, 0, 1, right)
	p.give(at, 1, -1, belowLeft)
	p.give(at, 1, 0, below)
	p.give(at, 1, 1, left-right-belowLeft-below)
	return dot
}

// give hands light to the neighbour that is so many rows down, and so many numbers to the right; without one it is lost.
func (p *picture) give(at, down, right, light int) {
	column := at%p.wide + right
	to := at + down*p.wide + right
	if column < 0 || column >= p.wide || to >= len(p.light) {
		p.lost += light
		return
	}
	p.light[to] += light
}
