package dye_test

import (
	"math"
	"slices"
	"testing"

	"tapestry/api"
	"tapestry/dye"
)

// mixTells, nearestTells and dotsTells hold the error against the one that is wanted; beside one all else must be zero, a float +0.
func mixTells(t *testing.T, l []api.Drop, want api.Errno) {
	t.Helper()
	d, err := dye.Mix(l)
	if err != want || want != api.OK && bits(d) != [3]uint64{} || want == api.OK && !fairByWords(d) {
		t.Errorf("Mix of %d drops, %v..: %v, %d, not %d", len(l), l[:min(3, len(l))], d, err, want)
	}
}

func nearestTells(t *testing.T, l []api.Dye, d api.Dye, want api.Errno) {
	t.Helper()
	place, err := dye.Nearest(l, d)
	if err != want || want != api.OK && place != 0 || want == api.OK && (place < 0 || place >= len(l)) {
		t.Errorf("Nearest of %d dyes, %v.., to %v: %d, %d, not %d", len(l), l[:min(3, len(l))], d, place, err, want)
	}
}

func dotsTells(t *testing.T, wide int, grey []int, want api.Errno) {
	t.Helper()
	out, lost, err := dye.Dots(wide, grey)
	if err != want || want != api.OK && (len(out) != 0 || lost != 0) || want == api.OK && len(out) != len(grey) {
		t.Errorf("Dots of %d numbers, %d wide, %v..: %d dots, %d, %d, not %d", len(grey), wide, grey[:min(6, len(grey))], len(out), lost, err, want)
	}
}

// noNumbers are some of those that are no number, with either sign.
func noNumbers() []float64 {
	return []float64{math.NaN(), math.Copysign(math.NaN(), -1), math.Float64frombits(0x7ff0000000000001), math.Float64frombits(0xffffffffffffffff)}
}

// unfairParts are below 0, greater than 1, without end, and no number.
func unfairParts() []float64 {
	return append(noNumbers(), -math.SmallestNonzeroFloat64, -0x1p-1022, -1e-17, -0.5, -1, -math.MaxFloat64, math.Inf(-1), math.Nextafter(1, 2), 1.5, 2, 255, math.MaxFloat64, math.Inf(1))
}

// fairParts are those at the edges, and next to them.
func fairParts() []float64 {
	return []float64{0, math.Copysign(0, -1), math.SmallestNonzeroFloat64, 0x1p-1022, 0.5, math.Nextafter(1, 0), 1}
}

// wrongShares and rightShares likewise.
func wrongShares() []float64 {
	return append(noNumbers(), 0, math.Copysign(0, -1), math.SmallestNonzeroFloat64, 0x1p-21, math.Nextafter(leastShare, 0), -leastShare, -1, -1048576, -math.MaxFloat64, math.Inf(-1), math.Nextafter(1048576, 2e6), 1048577, 2e6, math.MaxFloat64, math.Inf(1))
}

func rightShares() []float64 {
	return []float64{leastShare, math.Nextafter(leastShare, 1), 0.5, 1, 3, 1048575, math.Nextafter(1048576, 1), 1048576}
}

// with is a dye one of whose parts is another one.
func with(d api.Dye, part int, value float64) api.Dye {
	p := three(d)
	p[part] = value
	return dyeOf(p)
}

// TestZ1MixParts: each part, alone and in the first, a middle and the last drop.
func TestZ1MixParts(t *testing.T) {
	for _, many := range []int{1, 2, 3, api.MaxDrops} {
		for _, at := range []int{0, many / 2, many - 1} {
			for part := range 3 {
				l := strewnDrops(many, 11)
				kept := l[at].Dye
				for _, p := range fairParts() {
					l[at].Dye = with(kept, part, p)
					mixTells(t, l, api.OK)
				}
				for _, p := range unfairParts() {
					l[at].Dye = with(kept, part, p)
					mixTells(t, l, api.ErrRange)
				}
			}
		}
	}
}

// TestZ1MixShares: each Share, likewise.
func TestZ1MixShares(t *testing.T) {
	for _, many := range []int{1, 2, 3, api.MaxDrops} {
		for _, at := range []int{0, many / 2, many - 1} {
			l := strewnDrops(many, 12)
			for _, s := range rightShares() {
				l[at].Share = s
				mixTells(t, l, api.OK)
			}
			for _, s := range wrongShares() {
				l[at].Share = s
				mixTells(t, l, api.ErrRange)
			}
		}
	}
}

// TestZ1MixMany: none, MaxDrops and more; of too many it is not told that they are wrong otherwise, too.
func TestZ1MixMany(t *testing.T) {
	mixTells(t, nil, api.ErrMany)
	mixTells(t, []api.Drop{}, api.ErrMany)
	mixTells(t, strewnDrops(3, 1)[:0], api.ErrMany)
	for many := 1; many <= 64; many++ {
		mixTells(t, strewnDrops(many, many), api.OK)
		mixTells(t, make([]api.Drop, many), api.ErrRange)
	}
	for _, many := range []int{65, 66, 128, 256, 1 << 16, 1<<16 + 1} {
		l := strewnDrops(many, 2)
		mixTells(t, l, api.ErrMany)
		l[0].Dye.R = math.NaN()
		mixTells(t, l, api.ErrMany)
		l[many-1].Share = -1
		mixTells(t, l, api.ErrMany)
		mixTells(t, make([]api.Drop, many), api.ErrMany)
	}
}

// TestZ1MixBoth: a dye that is not fair, and a Share that is none, in one drop and in several.
func TestZ1MixBoth(t *testing.T) {
	for _, p := range unfairParts() {
		for _, s := range wrongShares() {
			mixTells(t, []api.Drop{{Dye: api.Dye{R: p, G: p, B: p}, Share: s}}, api.ErrRange)
			mixTells(t, []api.Drop{{Dye: api.Dye{G: p}, Share: 1}, {Dye: api.Dye{R: 1}, Share: s}}, api.ErrRange)
			mixTells(t, []api.Drop{{Dye: api.Dye{R: 1}, Share: s}, {Dye: api.Dye{B: p}, Share: 1}, {Dye: api.Dye{R: 1}, Share: 1}}, api.ErrRange)
		}
	}
}

// TestZ2NearestParts: each part of d, and of a dye at the first, a middle and the last place, those too behind one that is no way off.
func TestZ2NearestParts(t *testing.T) {
	for _, many := range []int{1, 2, 3, api.MaxDyes} {
		for _, at := range []int{0, many / 2, many - 1} {
			for part := range 3 {
				l := strewnDyes(many, 21)
				d, kept := l[0], l[at]
				for _, p := range fairParts() {
					l[at] = with(kept, part, p)
					nearestTells(t, l, d, api.OK)
					nearestTells(t, l, with(d, part, p), api.OK)
				}
				for _, p := range unfairParts() {
					l[at] = with(kept, part, p)
					nearestTells(t, l, d, api.ErrRange)
					nearestTells(t, l, with(d, part, p), api.ErrRange)
					l[at] = kept
					nearestTells(t, l, with(d, part, p), api.ErrRange)
				}
			}
		}
	}
}

// TestZ2NearestMany: none, MaxDyes and more, whatever else is wrong.
func TestZ2NearestMany(t *testing.T) {
	black, wrong := api.Dye{}, api.Dye{R: 2, G: math.NaN(), B: -1}
	for _, d := range []api.Dye{black, wrong} {
		nearestTells(t, nil, d, api.ErrMany)
		nearestTells(t, []api.Dye{}, d, api.ErrMany)
		nearestTells(t, strewnDyes(3, 1)[:0], d, api.ErrMany)
		for _, many := range []int{257, 258, 512, 1 << 16, 1<<16 + 1} {
			l := strewnDyes(many, 3)
			nearestTells(t, l, d, api.ErrMany)
			l[many-1] = wrong
			nearestTells(t, l, d, api.ErrMany)
			l[0] = wrong
			nearestTells(t, l, d, api.ErrMany)
		}
	}
	for many := 1; many <= 256; many++ {
		l := strewnDyes(many, many)
		nearestTells(t, l, black, api.OK)
		nearestTells(t, l, wrong, api.ErrRange)
		l[many-1] = wrong
		nearestTells(t, l, black, api.ErrRange)
		nearestTells(t, l, wrong, api.ErrRange)
	}
}

// noWides are numbers that wide must not be.
func noWides() []int {
	return []int{math.MinInt, math.MinInt + 1, -1 << 32, 1 - 1<<32, math.MinInt32, -65536, -4097, -4096, -2, -1, 0, 4097, 4098, 8192, 65535, 65536, 65537, math.MaxInt32, 1<<32 + 1, 1 << 32, math.MaxInt - 1, math.MaxInt}
}

// noGreys are numbers that are not from 0 to White.
func noGreys() []int {
	return []int{math.MinInt, math.MinInt + 1, math.MinInt / 16, -1 << 32, 128 - 1<<32, -256, -255, -2, -1, 256, 257, 511, 4080, 1 << 32, 1<<32 + 128, 1 << 60, math.MaxInt / 16, math.MaxInt - 1, math.MaxInt}
}

// TestZ3DotsWide: wide out of range, with no numbers and with some, right and wrong ones.
func TestZ3DotsWide(t *testing.T) {
	for _, wide := range noWides() {
		for _, many := range []int{0, 1, 2, 4096, 4097, 8194, 65535, 65536, 65537} {
			grey := make([]int, many)
			dotsTells(t, wide, grey, api.ErrFit)
			if many > 0 {
				grey[many-1] = -1
				dotsTells(t, wide, grey, api.ErrFit)
			}
		}
		dotsTells(t, wide, nil, api.ErrFit)
	}
	for _, wide := range []int{1, 2, 4095, 4096} {
		dotsTells(t, wide, nil, api.OK)
		dotsTells(t, wide, make([]int, wide), api.OK)
	}
}

// TestZ3DotsDivides: each wide and how many numbers there are, if few; and some great ones.
func TestZ3DotsDivides(t *testing.T) {
	for wide := -3; wide <= 30; wide++ {
		for many := 0; many <= 70; many++ {
			want := api.OK
			if wide < 1 || many%wide != 0 {
				want = api.ErrFit
			}
			dotsTells(t, wide, make([]int, many), want)
			if many > 0 && want == api.ErrFit {
				dotsTells(t, wide, slices.Repeat([]int{256}, many), api.ErrFit)
			}
		}
	}
	for _, x := range [][2]int{{4096, 1}, {4096, 4095}, {4096, 4097}, {4096, 65535}, {4095, 4096}, {4095, 65536}, {2, 65535}, {3, 65536}} {
		dotsTells(t, x[0], make([]int, x[1]), api.ErrFit)
	}
}

// TestZ3DotsMany: more than MaxText numbers, though wide divides how many there are.
func TestZ3DotsMany(t *testing.T) {
	for _, x := range [][2]int{{1, 65537}, {2, 65538}, {4096, 65536 + 4096}, {1, 1 << 17}, {4096, 1 << 20}, {65537, 65537}, {3, 65538}} {
		grey := make([]int, x[1])
		dotsTells(t, x[0], grey, api.ErrFit)
		grey[0], grey[x[1]-1] = -1, 256
		dotsTells(t, x[0], grey, api.ErrFit)
	}
	dotsTells(t, 1, make([]int, 65536), api.OK)
	dotsTells(t, 4096, make([]int, 65536), api.OK)
}

// TestZ3DotsNumbers: one number that is out of range, at each place of few and at the first, a middle and the last one of many.
func TestZ3DotsNumbers(t *testing.T) {
	for _, g := range noGreys() {
		for wide := 1; wide <= 4; wide++ {
			for at := range 3 * wide {
				grey := strewnGrey(3*wide, wide)
				grey[at] = g
				dotsTells(t, wide, grey, api.ErrRange)
			}
		}
		for _, at := range []int{0, 1, 4095, 4096, 32768, 65535} {
			grey := make([]int, 65536)
			grey[at] = g
			dotsTells(t, 4096, grey, api.ErrRange)
		}
		dotsTells(t, 2, []int{g, g}, api.ErrRange)
		dotsTells(t, 2, []int{g, g, g}, api.ErrFit)
	}
	for g := -300; g <= 600; g++ {
		want := api.OK
		if g < 0 || g > 255 {
			want = api.ErrRange
		}
		dotsTells(t, 1, []int{g}, want)
		dotsTells(t, 1, []int{255, g}, want)
	}
}
