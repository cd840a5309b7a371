package house

import (
	"tapestry/api"
	"tapestry/cards"
	"tapestry/cloth"
	"tapestry/draft"
	"tapestry/group"
	"tapestry/kind"
	"tapestry/truth"
)

// madeOf is what comes of a chart of which Kind has told the kind. No more can be wrong then, so that no errno is looked at:
// the kind has a name, the chart's torus is one of which Domain tells, and its cloth has bits, no more to a side than there may be.
func madeOf(c api.Chart, k int) api.Made {
	var out api.Made
	out.Kind, _ = kind.Name(k)
	domain, _ := group.Domain(c)
	out.Points = len(domain)
	m := clothOf(c)
	out.Draft, _ = draft.Fewest(m)
	out.Hangs, _ = cloth.Hangs(m)
	out.Lift, _ = cloth.Lift(m)
	out.Down, out.Along, _ = truth.Floats(m)
	out.Cards, _ = cards.Pack(m)
	return out
}

// clothOf is the cloth that holds wherever a chart's cell is not the colour 0.
func clothOf(c api.Chart) api.Truth {
	m := api.Truth{Wide: c.Wide, High: c.High, Bits: make([]bool, len(c.Cells))}
	for i, colour := range c.Cells {
		m.Bits[i] = colour != 0
	}
	return m
}
