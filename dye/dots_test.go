package dye_test

import (
	"slices"
	"testing"

	"tapestry/api"
)

// asDots: Dots tells what Z3's words do, and no light is lost but what is told. It tells each v.
func asDots(t *testing.T, wide int, grey []int) []int {
	t.Helper()
	got, lost := dots(t, wide, grey)
	want, wantLost, seen := dotsByWords(wide, grey)
	if !slices.Equal(got, want) || lost != wantLost {
		t.Errorf("%d numbers, %d wide: %d lost, not %d; %v.., not %v..", len(grey), wide, lost, wantLost, got[:min(12, len(got))], want[:min(12, len(want))])
	}
	light := -lost
	for i := range grey {
		light += 16*grey[i] - 16*got[i]
	}
	if light != 0 {
		t.Errorf("%d numbers, %d wide: %d sixteenths are nowhere", len(grey), wide, light)
	}
	return seen
}

// TestZ3DotsKnown: what was worked out by hand; the document's own is one dot of 127.
func TestZ3DotsKnown(t *testing.T) {
	for _, x := range []struct {
		wide int
		grey []int
		want []int
		lost int
	}{
		{1, []int{127}, []int{0}, 2032},
		{1, []int{128}, []int{255}, -2032},
		{1, []int{0}, []int{0}, 0},
		{1, []int{255}, []int{255}, 0},
		{1, []int{1}, []int{0}, 16},
		{1, []int{254}, []int{255}, -16},
		{2, []int{8, 124}, []int{0, 255}, 128 + 1984 - 4080},             // v is 1984 and 56: just White
		{2, []int{1, 127}, []int{0, 0}, 16 + 2032},                       // 2032 and 7: one less
		{2, []int{254, 128}, []int{255, 255}, 4064 + 2048 - 8160},        // 2048 less 7: one more
		{2, []int{253, 128}, []int{255, 0}, 4048 + 2048 - 4080},          // 2048 less 14
		{1, []int{8, 125}, []int{0, 255}, 128 + 2000 - 4080},             // below: 2000 and 40
		{1, []int{11, 124}, []int{0, 0}, 176 + 1984},                     // 1984 and 55
		{2, []int{0, 8, 126, 0}, []int{0, 0, 255, 0}, 128 + 2016 - 4080}, // below on the left: 2016 and 24
		{2, []int{8, 0, 0, 125}, []int{0, 0, 0, 255}, 128 + 2000 - 4080}, // 2000 and 8, and by way of the others 17 and 21
		{2, []int{8, 0, 0, 124}, []int{0, 0, 0, 0}, 128 + 1984},
		{2, []int{0, 0, 255, 255}, []int{0, 0, 255, 255}, 0},
		{3, []int{255, 0, 255, 0, 255, 0}, []int{255, 0, 255, 0, 255, 0}, 0},
	} {
		got, lost := dots(t, x.wide, x.grey)
		if !slices.Equal(got, x.want) || lost != x.lost {
			t.Errorf("%v, %d wide: %v, %d lost, not %v, %d", x.grey, x.wide, got, lost, x.want, x.lost)
		}
		asDots(t, x.wide, x.grey)
	}
}

// TestZ3DotsOne: each number alone: White from 128 on, and all that is left is lost.
func TestZ3DotsOne(t *testing.T) {
	for g := 0; g <= 255; g++ {
		dot := 0
		if g >= 128 {
			dot = 255
		}
		got, lost := dots(t, 1, []int{g})
		if !slices.Equal(got, []int{dot}) || lost != 16*(g-dot) {
			t.Errorf("one dot of %d: %v, %d lost", g, got, lost)
		}
	}
}

// justWhite: among all v are such that are just White's half, and those next to it.
func justWhite(t *testing.T, what string, seen map[int]int) {
	t.Helper()
	for v := 2039; v <= 2041; v++ {
		if seen[v] == 0 {
			t.Errorf("%s: no v is %d", what, v)
		}
	}
}

// TestZ3DotsTwo: each two numbers, beside each other and one below the other.
func TestZ3DotsTwo(t *testing.T) {
	for _, wide := range []int{1, 2} {
		seen := map[int]int{}
		for a := 0; a <= 255; a++ {
			for b := 0; b <= 255; b++ {
				seen[asDots(t, wide, []int{a, b})[1]]++
			}
		}
		justWhite(t, "two numbers", seen)
	}
}

// TestZ3DotsBelow: each two numbers of which one is below on the left, or below on the right, of the other one; those between give nothing of their own.
func TestZ3DotsBelow(t *testing.T) {
	for _, at := range [][2]int{{1, 3}, {1, 4}, {1, 5}} {
		seen := map[int]int{}
		for a := 0; a <= 255; a++ {
			for b := 0; b <= 255; b++ {
				grey := make([]int, 6)
				grey[at[0]], grey[at[1]] = a, b
				seen[asDots(t, 3, grey)[at[1]]]++
			}
		}
		justWhite(t, "below", seen)
	}
}

// TestZ3DotsEachNeighbour: what is given goes to four neighbours, and to no others, and over the edges nothing comes round.
func TestZ3DotsEachNeighbour(t *testing.T) {
	for wide := 1; wide <= 5; wide++ {
		for at := range wide * 4 {
			for _, one := range []int{1, 15, 100, 127, 128, 200, 254} {
				for _, other := range []int{0, 255} {
					grey := slices.Repeat([]int{other}, wide*4)
					grey[at] = one
					asDots(t, wide, grey)
				}
			}
		}
	}
}

// TestZ3DotsByTheWords: one row, one column, and several rows of several numbers.
func TestZ3DotsByTheWords(t *testing.T) {
	below, above := 0, 0
	for wide := 1; wide <= 20; wide++ {
		for high := 0; high <= 20; high++ {
			for seed := range 3 {
				for _, v := range asDots(t, wide, strewnGrey(wide*high, 400*seed+20*wide+high)) {
					if v < 0 {
						below++
					}
					if v > 4080 {
						above++
					}
				}
			}
		}
	}
	for many := 1; many <= 300; many += 7 {
		asDots(t, 1, strewnGrey(many, many))
		asDots(t, many, strewnGrey(many, many+1))
	}
	if below == 0 || above == 0 {
		t.Errorf("%d times less than none is to be shown, %d times more than White", below, above)
	}
}

// TestZ3DotsAllAlike: one grey all over, of each brightness, and slopes between them.
func TestZ3DotsAllAlike(t *testing.T) {
	for g := 0; g <= 255; g++ {
		asDots(t, 7, slices.Repeat([]int{g}, 7*9))
		slope := make([]int, 16*16)
		for i := range slope {
			slope[i] = (i + g) % 256
		}
		asDots(t, 16, slope)
	}
}

// TestZ3DotsTowardsNought: shares of what is below 0 are rounded as those of what is above it: as many sixteenths, with the other sign. Rounded down, other dots come, or other light is lost.
func TestZ3DotsTowardsNought(t *testing.T) {
	unlike := 0
	for seed := range 40 {
		grey := strewnGrey(40*50, 5000+seed)
		asDots(t, 40, grey)
		got, lost := dots(t, 40, grey)
		down, downLost := dotsRoundedDown(40, grey)
		if !slices.Equal(got, down) || lost != downLost {
			unlike++
		}
	}
	if unlike == 0 {
		t.Error("no picture that would be another one, if it were rounded down")
	}
}

// dotsRoundedDown is what Z3 does not say: shares towards the lesser.
func dotsRoundedDown(wide int, grey []int) (out []int, lost int) {
	light := make([]int, len(grey))
	give := func(x, to, much int) {
		if x < 0 || x >= wide || to >= len(grey) {
			lost += much
			return
		}
		light[to] += much
	}
	for i, g := range grey {
		v, dot := 16*g+light[i], 0
		if v >= 2040 {
			dot = 255
		}
		left := v - 16*dot
		right, belowLeft, below := left*7>>4, left*3>>4, left*5>>4
		give(i%wide+1, i+1, right)
		give(i%wide-1, i+wide-1, belowLeft)
		give(i%wide, i+wide, below)
		give(i%wide+1, i+wide+1, left-right-belowLeft-below)
		out = append(out, dot)
	}
	return out, lost
}

// TestZ3DotsAtTheEdges: no numbers for each wide; wide 1 and MaxStitches; MaxText numbers, and nearly as many.
func TestZ3DotsAtTheEdges(t *testing.T) {
	for wide := 1; wide <= api.MaxStitches; wide++ {
		for _, none := range [][]int{nil, {}} {
			if got, lost := dots(t, wide, none); len(got) != 0 || lost != 0 {
				t.Errorf("no numbers, %d wide: %v, %d", wide, got, lost)
			}
		}
	}
	for _, x := range [][2]int{{1, api.MaxText}, {2, api.MaxText}, {256, 65536}, {2048, 65536}, {4096, 65536}, {4096, 4096}, {4095, 65520}, {3, 65535}, {1, 65535}, {5, 65535}, {4096, 8192}, {4095, 4095}} {
		wide, many := x[0], x[1]
		asDots(t, wide, strewnGrey(many, wide))
		for _, g := range []int{0, 1, 64, 127, 128, 191, 254, 255} {
			asDots(t, wide, slices.Repeat([]int{g}, many))
		}
	}
}
