package dye_test

import (
	"math"
	"slices"
	"testing"

	"tapestry/api"
)

// asNearest: Nearest tells what Z2's words do.
func asNearest(t *testing.T, l []api.Dye, d api.Dye) {
	t.Helper()
	if got, want := nearest(t, l, d), nearestBy(l, d, farByWords); got != want {
		t.Errorf("the nearest of %d dyes to %x is at %d, not %d", len(l), d, got, want)
	}
}

// TestZ2NearestKnown: what is seen at once.
func TestZ2NearestKnown(t *testing.T) {
	black, white, red, green, blue := api.Dye{}, api.Dye{R: 1, G: 1, B: 1}, api.Dye{R: 1}, api.Dye{G: 1}, api.Dye{B: 1}
	for _, x := range []struct {
		l    []api.Dye
		d    api.Dye
		want int
	}{
		{[]api.Dye{black}, black, 0},
		{[]api.Dye{black}, white, 0},
		{[]api.Dye{white}, black, 0},
		{[]api.Dye{black, white}, white, 1},
		{[]api.Dye{white, black}, white, 0},
		{[]api.Dye{red, green, blue}, api.Dye{R: 0.2, G: 0.3, B: 0.9}, 2},
		{[]api.Dye{red, green, blue}, api.Dye{R: 0.2, G: 0.9, B: 0.3}, 1},
		{[]api.Dye{red, green, blue}, api.Dye{R: 0.9, G: 0.2, B: 0.3}, 0},
		{[]api.Dye{red, green, blue}, black, 0},
		{[]api.Dye{blue, green, red}, white, 0},
		{[]api.Dye{white, green, red, blue}, black, 1},
		{[]api.Dye{white, red, black, red, black}, api.Dye{R: 0.25}, 2},
		{[]api.Dye{{R: 0.25}, {R: 0.75}}, api.Dye{R: 0.5}, 0},
		{[]api.Dye{{R: 0.75}, {R: 0.25}}, api.Dye{R: 0.5}, 0},
		{[]api.Dye{{R: 0.5, G: 0.5}, {B: 0.6}}, black, 1}, // 0.5 of squares against 0.36, but one difference against two
		{[]api.Dye{{B: 0.75}, {R: 0.5, G: 0.5}}, black, 1},
	} {
		if got := nearest(t, x.l, x.d); got != x.want {
			t.Errorf("of %v the nearest to %v is at %d, not %d", x.l, x.d, got, x.want)
		}
		asNearest(t, x.l, x.d)
	}
}

// TestZ2NearestByTheWords: one dye, a few, and up to MaxDyes.
func TestZ2NearestByTheWords(t *testing.T) {
	for many := 1; many <= api.MaxDyes; many += 1 + many/8 {
		for seed := range 8 {
			asNearest(t, strewnDyes(many, 50*many+seed), strewnDye(-seed-1))
		}
	}
	for seed := range 40 {
		asNearest(t, strewnDyes(1, 90+seed), strewnDye(-seed-1))
		asNearest(t, strewnDyes(4, 190+seed), strewnDye(-seed-1))
	}
	for seed := range 10 {
		asNearest(t, strewnDyes(api.MaxDyes, 290+seed), strewnDye(-seed-1))
	}
}

// TestZ2NearestEachPlace: the nearest one stands at each place of MaxDyes dyes, the first and the last one too.
func TestZ2NearestEachPlace(t *testing.T) {
	l := strewnDyes(api.MaxDyes, 3)
	for i, d := range l {
		if got := nearest(t, l, d); got > i || farByWords(l[got], d) != 0 {
			t.Errorf("a dye that is there at %d: the nearest one is at %d", i, got)
		}
		asNearest(t, l, d)
	}
	grey := make([]api.Dye, api.MaxDyes)
	for i := range grey {
		part := float64(i) / 255
		grey[i] = api.Dye{R: part, G: part, B: part}
	}
	for i, d := range grey {
		if got := nearest(t, grey, d); got != i {
			t.Errorf("grey %d is at %d", i, got)
		}
	}
}

// TestZ2NearestFirst: of several that are as far the first one, wherever they stand and whatever stands ahead of them.
func TestZ2NearestFirst(t *testing.T) {
	d := api.Dye{R: 0.5, G: 0.5, B: 0.5}
	as := []api.Dye{{R: 0.75, G: 0.5, B: 0.5}, {R: 0.25, G: 0.5, B: 0.5}, {R: 0.5, G: 0.75, B: 0.5}, {R: 0.5, G: 0.25, B: 0.5}, {R: 0.5, G: 0.5, B: 0.75}, {R: 0.5, G: 0.5, B: 0.25}}
	for i := range as {
		turned := slices.Concat(as[i:], as[:i])
		for ahead := range 5 {
			l := slices.Concat(slices.Repeat([]api.Dye{{R: 1}}, ahead), turned, []api.Dye{{B: 1}})
			if got := nearest(t, l, d); got != ahead {
				t.Errorf("of six that are as far, behind %d others, the one at %d", ahead, got)
			}
		}
	}
	alike := slices.Repeat([]api.Dye{{R: 0.1, G: 0.2, B: 0.3}}, api.MaxDyes)
	if got := nearest(t, alike, d); got != 0 {
		t.Errorf("of dyes that are all alike the one at %d", got)
	}
}

// TestZ2NearestNoughts: -0 is no other part than 0.
func TestZ2NearestNoughts(t *testing.T) {
	below := math.Copysign(0, -1)
	noughts := []api.Dye{{}, {R: below}, {R: below, G: below, B: below}, {B: below}}
	for _, d := range noughts {
		if got := nearest(t, append([]api.Dye{{R: 1}}, noughts...), d); got != 1 {
			t.Errorf("of noughts behind red the one at %d", got)
		}
		slices.Reverse(noughts)
		if got := nearest(t, noughts, d); got != 0 {
			t.Errorf("of noughts the one at %d", got)
		}
	}
}

// TestZ2NearestRounded: what is rounded off makes dyes as far as others, so that the first one is taken, though it is farther.
func TestZ2NearestRounded(t *testing.T) {
	for _, x := range []struct {
		l    []api.Dye
		d    api.Dye
		want int
	}{
		{[]api.Dye{{R: 1e-200}, {}}, api.Dye{}, 0},          // the product is rounded to 0
		{[]api.Dye{{R: 1e-160}, {R: 1e-161}}, api.Dye{}, 1}, // these have few digits, and are told apart
		{[]api.Dye{{R: math.SmallestNonzeroFloat64}, {}}, api.Dye{}, 0},
		{[]api.Dye{{R: 1e-17}, {}}, api.Dye{R: 1}, 0}, // so is a difference: to 1
		{[]api.Dye{{}, {R: 1e-17}}, api.Dye{R: 1}, 0},
		{[]api.Dye{{G: 1e-9}, {}}, api.Dye{R: 1}, 0}, // so is a sum: to 1
		{[]api.Dye{{B: 1e-9}, {G: 1e-9}, {}}, api.Dye{R: 1}, 0},
		{[]api.Dye{{G: 1e-8, B: 1e-8}, {}}, api.Dye{R: 1}, 0}, // each of them is lost where it is added
		{[]api.Dye{{R: 1e-8, G: 1e-8}, {}}, api.Dye{B: 1}, 1}, // but not if they are added first
		{[]api.Dye{{R: 1e-8, B: 1e-8}, {}}, api.Dye{G: 1}, 0},
		{[]api.Dye{{R: 0x1p-538, G: 0x1p-538}, {R: 0x1p-537}}, api.Dye{}, 0}, // twice 0 against the least that is not 0
		{[]api.Dye{{R: 0x1p-537}, {R: 0x1p-538, G: 0x1p-538, B: 0x1p-538}}, api.Dye{}, 1},
		{[]api.Dye{{R: 0x1.8p-538}, {R: 0x1p-537}}, api.Dye{}, 0},                           // rounded up to the same
		{[]api.Dye{{R: 0x1.6a09e667f3bcdp-538}, {R: 0x1.6a09e667f3bccp-538}}, api.Dye{}, 1}, // just above a half of the least one, and below
		{[]api.Dye{{R: 1, G: 1, B: 1}, {R: 1, G: 1, B: 1 - 0x1p-53}}, api.Dye{}, 0},         // midway between 3 and the one ahead of it: 3 is even
		{[]api.Dye{{R: 1, G: 1, B: 1}, {R: 1, G: 1, B: 1 - 0x1p-52}}, api.Dye{}, 1},
	} {
		if got := nearest(t, x.l, x.d); got != x.want {
			t.Errorf("of %v the nearest to %v is at %d, not %d", x.l, x.d, got, x.want)
		}
		asNearest(t, x.l, x.d)
	}
}

// otherFars are what Z2's words don't say: squares added in another order, products that are not rounded by themselves, a root, and nothing rounded but the end.
func otherFars() map[string]func(a, b api.Dye) float64 {
	off := func(a, b api.Dye) (r, g, l float64) {
		return difference(a.R, b.R), difference(a.G, b.G), difference(a.B, b.B)
	}
	return map[string]func(a, b api.Dye) float64{
		"the last two first": func(a, b api.Dye) float64 { s := squaresByWords(a, b); return sum(s[0], sum(s[1], s[2])) },
		"the outer two":      func(a, b api.Dye) float64 { s := squaresByWords(a, b); return sum(sum(s[0], s[2]), s[1]) },
		"the third joined": func(a, b api.Dye) float64 {
			r, g, l := off(a, b)
			return math.FMA(l, l, sum(product(r, r), product(g, g)))
		},
		"the second joined": func(a, b api.Dye) float64 {
			r, g, l := off(a, b)
			return sum(math.FMA(g, g, product(r, r)), product(l, l))
		},
		"the first joined": func(a, b api.Dye) float64 {
			r, g, l := off(a, b)
			return sum(math.FMA(r, r, product(g, g)), product(l, l))
		},
		"both joined": func(a, b api.Dye) float64 { r, g, l := off(a, b); return math.FMA(l, l, math.FMA(g, g, product(r, r))) },
		"a root":      func(a, b api.Dye) float64 { return math.Sqrt(farByWords(a, b)) },
		"the end alone": func(a, b api.Dye) float64 {
			all := exact(0)
			for part := range 3 {
				x := exact(three(a)[part])
				x.Sub(x, exact(three(b)[part]))
				all.Add(all, x.Mul(x, x))
			}
			return rounded(all)
		},
	}
}

// TestZ2NearestOrderOfAddingKnown: pairs of dyes that have the same parts in another order, which some other way to add or round would hold against each other otherwise.
func TestZ2NearestOrderOfAddingKnown(t *testing.T) {
	for _, x := range []struct {
		way  string
		l    []api.Dye
		want int
	}{
		{"the last two first", []api.Dye{{R: 0.4, G: 0.7, B: 0.25}, {R: 0.25, G: 0.7, B: 0.4}}, 0},
		{"the last two first", []api.Dye{{R: 0.6, G: 0.3, B: 1}, {R: 1, G: 0.3, B: 0.6}}, 0},
		{"the outer two", []api.Dye{{R: 0.6, G: 1, B: 0.15}, {R: 1, G: 0.6, B: 0.15}}, 0},
		{"the outer two", []api.Dye{{R: 0.95, G: 0.3, B: 0.45}, {R: 0.3, G: 0.95, B: 0.45}}, 0},
		{"the third joined", []api.Dye{{R: 1, G: 0.45, B: 0.4}, {R: 0.4, G: 0.45, B: 1}}, 1},
		{"the third joined", []api.Dye{{R: 0.25, G: 0.5, B: 0.55}, {R: 0.25, G: 0.55, B: 0.5}}, 0},
		{"the second joined", []api.Dye{{R: 0.2, G: 0.4, B: 0.05}, {R: 0.05, G: 0.4, B: 0.2}}, 0},
		{"the second joined", []api.Dye{{R: 0.15, G: 0.6, B: 0.9}, {R: 0.15, G: 0.9, B: 0.6}}, 1},
		{"both joined", []api.Dye{{R: 0.6, G: 0.85, B: 0.25}, {R: 0.85, G: 0.25, B: 0.6}}, 0},
		{"both joined", []api.Dye{{R: 0.55, G: 0.05, B: 0.8}, {R: 0.8, G: 0.55, B: 0.05}}, 1},
		{"a root", []api.Dye{{R: 0.7, G: 0.5, B: 0.45}, {R: 0.45, G: 0.5, B: 0.7}}, 1},
		{"a root", []api.Dye{{R: 0.45, G: 0.4, B: 0.15}, {R: 0.45, G: 0.15, B: 0.4}}, 1},
	} {
		if got := nearest(t, x.l, api.Dye{}); got != x.want {
			t.Errorf("of %v the nearest to black is at %d, not %d: %s?", x.l, got, x.want, x.way)
		}
		asNearest(t, x.l, api.Dye{})
		if nearestBy(x.l, api.Dye{}, otherFars()[x.way]) == x.want {
			t.Errorf("of %v %s tells the same", x.l, x.way)
		}
	}
}

// orders are dyes with the same parts in all their orders.
func orders(a, b, c float64) []api.Dye {
	return []api.Dye{{R: a, G: b, B: c}, {R: a, G: c, B: b}, {R: b, G: a, B: c}, {R: b, G: c, B: a}, {R: c, G: a, B: b}, {R: c, G: b, B: a}}
}

// TestZ2NearestOrderOfAdding: many such dyes, near to black and to others: each other way to add or round is seen.
func TestZ2NearestOrderOfAdding(t *testing.T) {
	seen := map[string]int{}
	for seed := range 150 {
		l := orders(strewnPart(9*seed), strewnPart(9*seed+1), strewnPart(9*seed+2))
		grey := 0.0
		if seed%2 == 1 {
			grey = strewnPart(9*seed + 3)
		}
		d := api.Dye{R: grey, G: grey, B: grey}
		asNearest(t, l, d)
		for way, far := range otherFars() {
			if nearestBy(l, d, far) != nearest(t, l, d) {
				seen[way]++
			}
		}
	}
	for way := range otherFars() {
		if seen[way] < 3 {
			t.Errorf("%s: seen %d times", way, seen[way])
		}
	}
}
