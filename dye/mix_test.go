package dye_test

import (
	"math"
	"slices"
	"testing"

	"tapestry/api"
)

// leastShare is 1 / MaxShare.
const leastShare = 1.0 / 1048576

// asMixed: Mix tells what Z1's words do, bit by bit.
func asMixed(t *testing.T, l []api.Drop) {
	t.Helper()
	if got, want := mix(t, l), mixByWords(l); bits(got) != bits(want) {
		t.Errorf("Mix of %d drops: %x, not %x", len(l), got, want)
	}
}

// TestZ1MixKnown: what was worked out by hand. One drop of 0.1 is not 0.1 again: 3 times it is rounded, ahead of being divided.
func TestZ1MixKnown(t *testing.T) {
	half := api.Dye{R: 0.5, G: 0.25, B: 1}
	for _, x := range []struct {
		l    []api.Drop
		want api.Dye
	}{
		{[]api.Drop{{Dye: half, Share: 1}}, half},
		{[]api.Drop{{Dye: half, Share: leastShare}}, half},
		{[]api.Drop{{Dye: half, Share: 1048576}}, half},
		{[]api.Drop{{Dye: api.Dye{R: 0.1, G: 0.2, B: 0.7}, Share: 3}}, api.Dye{R: 0.10000000000000002, G: 0.20000000000000004, B: 0.6999999999999998}},
		{[]api.Drop{{Dye: api.Dye{R: 1}, Share: 1}, {Dye: api.Dye{G: 1}, Share: 3}}, api.Dye{R: 0.25, G: 0.75}},
		{[]api.Drop{{Dye: half, Share: 2}, {Dye: half, Share: 6}, {Dye: api.Dye{}, Share: 8}}, api.Dye{R: 0.25, G: 0.125, B: 0.5}},
		{[]api.Drop{{Dye: api.Dye{R: 1}, Share: 1048576}, {Dye: api.Dye{G: 1}, Share: 1048576}}, api.Dye{R: 0.5, G: 0.5}},
		{[]api.Drop{{Dye: api.Dye{R: 1, G: 1, B: 1}, Share: 1}, {Dye: api.Dye{}, Share: 2}}, api.Dye{R: 1.0 / 3, G: 1.0 / 3, B: 1.0 / 3}},
	} {
		if got := mix(t, x.l); bits(got) != bits(x.want) {
			t.Errorf("%v: %v, not %v", x.l, got, x.want)
		}
		asMixed(t, x.l)
	}
}

// TestZ1MixByTheWords: one drop, a few, and up to MaxDrops.
func TestZ1MixByTheWords(t *testing.T) {
	for many := 1; many <= 64; many++ {
		for seed := range 6 {
			asMixed(t, strewnDrops(many, 70*seed+many))
		}
	}
	for seed := range 40 {
		asMixed(t, strewnDrops(1, 500+seed))
		asMixed(t, strewnDrops(3, 600+seed))
		asMixed(t, strewnDrops(api.MaxDrops, 700+seed))
	}
}

// TestZ1MixNoughts: parts 0 and -0 make 0, never -0: the sum is from 0 on.
func TestZ1MixNoughts(t *testing.T) {
	below := math.Copysign(0, -1)
	for _, parts := range [][]float64{{0}, {below}, {below, below}, {0, below}, {below, 0}, slices.Repeat([]float64{below}, 64)} {
		var l []api.Drop
		for i, p := range parts {
			l = append(l, api.Drop{Dye: api.Dye{R: p, G: p, B: p}, Share: strewnShare(i)})
		}
		if got := mix(t, l); bits(got) != [3]uint64{} {
			t.Errorf("%v mixed are %v", parts, got)
		}
	}
	l := []api.Drop{{Dye: api.Dye{R: below, G: 1, B: 0.5}, Share: 1}, {Dye: api.Dye{R: 1, G: below, B: below}, Share: 1}}
	if got, want := mix(t, l), (api.Dye{R: 0.5, G: 0.5, B: 0.25}); bits(got) != bits(want) {
		t.Errorf("-0 and others mixed are %v", got)
	}
}

// TestZ1MixOnes: where all parts are 1 the sums are those of the Shares, however these are rounded.
func TestZ1MixOnes(t *testing.T) {
	for seed := range 60 {
		l := strewnDrops(1+strewn(api.MaxDrops, seed), seed)
		for i := range l {
			l[i].Dye = api.Dye{R: 1, G: 1, B: 1}
		}
		if got := mix(t, l); got != (api.Dye{R: 1, G: 1, B: 1}) {
			t.Errorf("%d drops of white are %x", len(l), got)
		}
	}
}

// TestZ1MixAtTheEdges: each Share that is at an edge, beside each other one, with parts that are at an edge or next to it.
func TestZ1MixAtTheEdges(t *testing.T) {
	shares := []float64{leastShare, math.Nextafter(leastShare, 1), 1, math.Nextafter(1, 0), math.Nextafter(1, 2), math.Nextafter(api.MaxShare, 1), api.MaxShare}
	dyes := []api.Dye{{}, {R: 1, G: 1, B: 1}, {R: math.Nextafter(1, 0), G: math.SmallestNonzeroFloat64, B: math.Copysign(0, -1)}, {R: 0x1p-1022, G: 0x1.fffffffffffffp-2, B: 0.1}, {R: 0x1.8p-1073, G: 0x1p-20, B: 0x1p-52}}
	for _, a := range shares {
		for _, b := range shares {
			for _, c := range dyes {
				for _, d := range dyes {
					asMixed(t, []api.Drop{{Dye: c, Share: a}, {Dye: d, Share: b}})
				}
			}
		}
	}
}

// TestZ1MixGreatestSmallest: MaxDrops drops of the greatest Share, of the smallest one, and of both: what is small is lost only where rounding does it.
func TestZ1MixGreatestSmallest(t *testing.T) {
	for _, both := range [][2]float64{{api.MaxShare, api.MaxShare}, {leastShare, leastShare}, {api.MaxShare, leastShare}, {leastShare, api.MaxShare}} {
		l := strewnDrops(api.MaxDrops, 7)
		for i := range l {
			l[i].Share = both[i%2]
		}
		asMixed(t, l)
	}
}

// otherMixes are what Z1's words don't say: drops from the last one on, products that are not rounded by themselves, each Share divided ahead of all else, each product divided ahead of being added, and the end alone rounded.
func otherMixes(l []api.Drop) map[string]float64 {
	shares, back, joined, divided, each := 0.0, 0.0, 0.0, 0.0, 0.0
	for _, drop := range l {
		shares += drop.Share
	}
	all, whole := exact(0), exact(0)
	for i, drop := range l {
		last := l[len(l)-1-i]
		back = sum(back, product(last.Share, last.Dye.R))
		joined = math.FMA(drop.Share, drop.Dye.R, joined)
		divided = sum(divided, product(quotient(drop.Share, shares), drop.Dye.R))
		each = sum(each, quotient(product(drop.Share, drop.Dye.R), shares))
		all.Add(all, exact(0).Mul(exact(drop.Share), exact(drop.Dye.R)))
		whole.Add(whole, exact(drop.Share))
	}
	return map[string]float64{"back": quotient(back, shares), "joined": quotient(joined, shares), "divided": divided, "each": each, "exact": rounded(all.Quo(all, whole))}
}

// TestZ1MixOtherRoundings: the drops of these tests are such that whoever adds or rounds otherwise is seen.
func TestZ1MixOtherRoundings(t *testing.T) {
	seen := map[string]int{"back": 0, "joined": 0, "divided": 0, "each": 0, "exact": 0}
	for seed := range 60 {
		l := strewnDrops(2+seed%9, 900+seed)
		asMixed(t, l)
		for way, r := range otherMixes(l) {
			if r != mix(t, l).R {
				seen[way]++
			}
		}
	}
	for way, times := range seen {
		if times < 3 {
			t.Errorf("%s: seen %d times", way, times)
		}
	}
}

// TestZ1MixInAnotherOrder: drops are added one behind the other as they stand: in another order something else may come.
func TestZ1MixInAnotherOrder(t *testing.T) {
	unlike := 0
	for seed := range 30 {
		l := strewnDrops(5, 1200+seed)
		asMixed(t, l)
		first := mix(t, l)
		slices.Reverse(l)
		asMixed(t, l)
		if bits(mix(t, l)) != bits(first) {
			unlike++
		}
	}
	if unlike == 0 {
		t.Error("no drops that make something else in another order")
	}
}
