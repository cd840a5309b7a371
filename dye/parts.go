package dye

import "tapestry/api"

// parts of a colour: red, green and blue.
//
// Each product, sum and difference is converted to float64 by itself: a compiler may else join two of them, and round but once.
type parts [3]float64

func partsOf(d api.Dye) parts { return parts{d.R, d.G, d.B} }

func (p parts) dye() api.Dye { return api.Dye{R: p[0], G: p[1], B: p[2]} }

// fair tells whether each part is from 0 to 1; what is no number is not.
func (p parts) fair() bool {
	for _, part := range p {
		if !(part >= 0 && part <= 1) {
			return false
		}
	}
	return true
}

// isShare tells whether a drop may be so much; what is no number may not.
func isShare(share float64) bool { return share >= 1/api.MaxShare && share <= api.MaxShare }

// plus, times and over change p, which is a copy of the caller's.
func (p parts) plus(q parts) parts {
	for i := range p {
		p[i] = float64(p[i] + q[i])
	}
	return p
}

func (p parts) times(share float64) parts {
	for i := range p {
		p[i] = float64(share * p[i])
	}
	return p
}

func (p parts) over(shares float64) parts {
	for i := range p {
		p[i] = float64(p[i] / shares)
	}
	return p
}

// far is how far two colours are apart.
func (p parts) far(q parts) float64 {
	for i := range p {
		off := float64(p[i] - q[i])
		p[i] = float64(off * off)
	}
	return float64(float64(p[0]+p[1]) + p[2])
}
