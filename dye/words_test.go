package dye_test

import (
	"math"
	"math/big"
	"testing"

	"tapestry/api"
	"tapestry/dye"
)

// exact and rounded: numbers without any rounding, and the float64 next to one (of two that are as near, the even one). What the machine makes of sums and products is not asked.
func exact(f float64) *big.Rat { return new(big.Rat).SetFloat64(f) }

func rounded(x *big.Rat) float64 {
	f, _ := x.Float64()
	return f
}

func sum(a, b float64) float64 { return rounded(new(big.Rat).Add(exact(a), exact(b))) }

func difference(a, b float64) float64 { return rounded(new(big.Rat).Sub(exact(a), exact(b))) }

func product(a, b float64) float64 { return rounded(new(big.Rat).Mul(exact(a), exact(b))) }

func quotient(a, b float64) float64 { return rounded(new(big.Rat).Quo(exact(a), exact(b))) }

// three are a dye's parts.
func three(d api.Dye) [3]float64 { return [3]float64{d.R, d.G, d.B} }

func dyeOf(p [3]float64) api.Dye { return api.Dye{R: p[0], G: p[1], B: p[2]} }

// fairByWords: from 0 to 1; beside what is no number nothing of this holds.
func fairByWords(d api.Dye) bool {
	for _, p := range three(d) {
		if math.IsNaN(p) || p < 0 || p > 1 {
			return false
		}
	}
	return true
}

// mixByWords is what Z1's words say of drops of which none is wrong.
func mixByWords(l []api.Drop) api.Dye {
	var out [3]float64
	for part := range out {
		shares := 0.0
		for _, drop := range l {
			out[part] = sum(out[part], product(drop.Share, three(drop.Dye)[part]))
			shares = sum(shares, drop.Share)
		}
		out[part] = quotient(out[part], shares)
	}
	return dyeOf(out)
}

// squaresByWords are the differences of R, G and B, each times itself.
func squaresByWords(a, b api.Dye) [3]float64 {
	var out [3]float64
	for part := range out {
		off := difference(three(a)[part], three(b)[part])
		out[part] = product(off, off)
	}
	return out
}

// farByWords is how far Z2's words say that two dyes are apart.
func farByWords(a, b api.Dye) float64 {
	s := squaresByWords(a, b)
	return sum(sum(s[0], s[1]), s[2])
}

// nearestBy is the first place of those that are least far, by some way to tell how far dyes are apart.
func nearestBy(l []api.Dye, d api.Dye, far func(a, b api.Dye) float64) int {
	all := make([]float64, len(l))
	for i, x := range l {
		all[i] = far(x, d)
	}
	for i, f := range all {
		least := true
		for _, g := range all {
			least = least && f <= g
		}
		if least {
			return i
		}
	}
	return -1
}

// share is so many sixteenths of what is left, without what is behind the point.
func share(left, many int) int {
	if left < 0 {
		return -share(-left, many)
	}
	return left * many >> 4
}

// dotsByWords is what Z3's words say; seen is each v. A number has all its neighbours here, for there is one more column at each side, and one more row: what is given to these is lost.
func dotsByWords(wide int, grey []int) (out []int, lost int, seen []int) {
	high := len(grey) / wide
	given := make([][]int, high+1)
	for y := range given {
		given[y] = make([]int, wide+2)
	}
	for y := 0; y < high; y++ {
		for x := 1; x <= wide; x++ {
			v := 16*grey[y*wide+x-1] + given[y][x]
			dot := 0
			if 2*v >= 4080 {
				dot = 255
			}
			left := v - 16*dot
			given[y][x+1] += share(left, 7)
			given[y+1][x-1] += share(left, 3)
			given[y+1][x] += share(left, 5)
			given[y+1][x+1] += left - share(left, 7) - share(left, 3) - share(left, 5)
			out, seen = append(out, dot), append(seen, v)
		}
	}
	for y := range given {
		for x, g := range given[y] {
			if y == high || x == 0 || x == wide+1 {
				lost += g
			}
		}
	}
	return out, lost, seen
}

// bits are a dye's parts, to be held against others bit by bit.
func bits(d api.Dye) [3]uint64 {
	return [3]uint64{math.Float64bits(d.R), math.Float64bits(d.G), math.Float64bits(d.B)}
}

// mix, nearest and dots are what is answered where nothing is wrong.
func mix(t *testing.T, l []api.Drop) api.Dye {
	t.Helper()
	d, err := dye.Mix(l)
	if err != api.OK {
		t.Fatalf("Mix of %d drops: %d", len(l), err)
	}
	return d
}

func nearest(t *testing.T, l []api.Dye, d api.Dye) int {
	t.Helper()
	place, err := dye.Nearest(l, d)
	if err != api.OK {
		t.Fatalf("Nearest of %d dyes to %x: %d", len(l), d, err)
	}
	return place
}

func dots(t *testing.T, wide int, grey []int) ([]int, int) {
	t.Helper()
	out, lost, err := dye.Dots(wide, grey)
	if err != api.OK {
		t.Fatalf("Dots of %d numbers, %d wide: %d", len(grey), wide, err)
	}
	return out, lost
}

// strewn is a number from 0 on below limit, another one for each seed.
func strewn(limit, seed int) int {
	x := uint64(seed)*0x9E3779B97F4A7C15 + 0xD1B54A32D192ED03
	x = (x ^ x>>30) * 0xBF58476D1CE4E5B9
	x = (x ^ x>>27) * 0x94D049BB133111EB
	return int((x ^ x>>31) % uint64(limit))
}

// strewnPart is from 0 to 1: mostly of full length, some few small ones, and the edges.
func strewnPart(seed int) float64 {
	part := float64(strewn(1<<53, 2*seed)) / (1 << 53)
	switch strewn(24, 2*seed+1) {
	case 0:
		return 0
	case 1:
		return math.Copysign(0, -1)
	case 2:
		return 1
	case 3:
		return part / (1 << 30)
	case 4:
		return math.Ldexp(part, -1050)
	}
	return part
}

func strewnDye(seed int) api.Dye {
	return api.Dye{R: strewnPart(3 * seed), G: strewnPart(3*seed + 1), B: strewnPart(3*seed + 2)}
}

// strewnShare is from 1 / MaxShare to MaxShare, as likely small as great.
func strewnShare(seed int) float64 {
	return math.Ldexp(1+float64(strewn(1<<52, 2*seed))/(1<<52), strewn(40, 2*seed+1)-20)
}

func strewnDrops(many, seed int) []api.Drop {
	l := make([]api.Drop, many)
	for i := range l {
		l[i] = api.Drop{Dye: strewnDye(1000*seed + i), Share: strewnShare(1000*seed + 500 + i)}
	}
	return l
}

func strewnDyes(many, seed int) []api.Dye {
	l := make([]api.Dye, many)
	for i := range l {
		l[i] = strewnDye(1000*seed + i)
	}
	return l
}

func strewnGrey(many, seed int) []int {
	l := make([]int, many)
	for i := range l {
		l[i] = strewn(256, 100000*seed+i)
	}
	return l
}
