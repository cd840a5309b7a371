package fabric_test

import (
	"math"
	"slices"
	"testing"

	"tapestry/api"
	"tapestry/fabric"
)

// leaves: what Tidy leaves of stitches.
func leaves(t *testing.T, l, want []api.Stitch) {
	t.Helper()
	if got := fabric.Tidy(l); !slices.Equal(got, want) {
		t.Errorf("%v: %v is left, not %v", l, got, want)
	}
}

// letters are stitches in short: t u k v d: a tuck, another one, a knit, a move, a drop; m n: misses; x: no kind; 0 to 9: racks from -4 to 5, of which 4 is to 0.
func letters(s string) []api.Stitch {
	var out []api.Stitch
	for _, r := range s {
		switch r {
		case 't':
			out = append(out, tucks(0, 1, 2))
		case 'u':
			out = append(out, tucks(1, 0, 3))
		case 'k':
			out = append(out, knits(0, 1, 2))
		case 'v':
			out = append(out, moves(1, 1))
		case 'd':
			out = append(out, drops(0, 2))
		case 'm':
			out = append(out, misses(0, 1, 2))
		case 'n':
			out = append(out, misses(-1, 500, 9))
		case 'x':
			out = append(out, stitch(7, 1, 1, 1, 4))
		default:
			out = append(out, racks(int(r)-'4'))
		}
	}
	return out
}

// leavesLetters: the same of stitches in short.
func leavesLetters(t *testing.T, l, want string) {
	t.Helper()
	if got := fabric.Tidy(letters(l)); !slices.Equal(got, letters(want)) {
		t.Errorf("%q: %v is left, not %q", l, got, want)
	}
}

// TestF3Nothing: of nothing nothing is left, nor of nothing but misses and racks to 0.
func TestF3Nothing(t *testing.T) {
	leaves(t, nil, nil)
	leaves(t, []api.Stitch{}, nil)
	for _, l := range []string{"", "m", "mn", "4", "44", "m4", "4m", "m4m4m", "54", "5m4", "5674", "m5n6m4n", "454m54"} {
		leavesLetters(t, l, "")
	}
}

// TestF3Misses: none stays, wherever it stands; all others do, in their order.
func TestF3Misses(t *testing.T) {
	leavesLetters(t, "tukvd", "tukvd")
	leavesLetters(t, "mtnumkmvndm", "tukvd")
	leavesLetters(t, "mmmt", "t")
	leavesLetters(t, "tmmm", "t")
	leavesLetters(t, "tttuut", "tttuut")
}

// TestF3Racks: of racks one behind the other the last one stays, with misses between them and without, at the end too.
func TestF3Racks(t *testing.T) {
	leavesLetters(t, "5t", "5t")
	leavesLetters(t, "56t", "6t")
	leavesLetters(t, "567t012u", "7t2u")
	leavesLetters(t, "5m6t", "6t")
	leavesLetters(t, "m5mn6m7mt", "7t")
	leavesLetters(t, "5t6u7v", "5t6u7v")
	leavesLetters(t, "t5", "t5")
	leavesLetters(t, "t567", "t7")
	leavesLetters(t, "t5m6m7m", "t7")
	leavesLetters(t, "5", "5")
	leavesLetters(t, "56", "6")
	leavesLetters(t, "m45m", "5")
	leavesLetters(t, "5x6t", "5x6t")
}

// TestF3Idle: racks to the rack that there is, at first and later, and those that become so only because others were left out.
func TestF3Idle(t *testing.T) {
	leavesLetters(t, "4t", "t")
	leavesLetters(t, "m4t", "t")
	leavesLetters(t, "t4u", "tu")
	leavesLetters(t, "5t5u", "5tu")
	leavesLetters(t, "5t5u5v5", "5tuv")
	leavesLetters(t, "5t6u6v5k", "5t6uv5k")
	leavesLetters(t, "5t4u4v", "5t4uv")
	leavesLetters(t, "5t4", "5t4")
	leavesLetters(t, "54t", "t")
	leavesLetters(t, "5m4t", "t")
	leavesLetters(t, "5t65u", "5tu")
	leavesLetters(t, "5t6m5u", "5tu")
	leavesLetters(t, "5t65u6k", "5tu6k")
	leavesLetters(t, "5t64u", "5t4u")
	leavesLetters(t, "5t65", "5t")
	leavesLetters(t, "5m5t", "5t")
	leavesLetters(t, "4t5u54v", "t5u4v")
	leavesLetters(t, "45t", "5t")
	leavesLetters(t, "5m", "5")
	leavesLetters(t, "t4", "t")
	leavesLetters(t, "3t5u3v", "3t5u3v")
	leavesLetters(t, "0t8u", "0t8u")
}

// TestF3Wrong: stitches that any machine would refuse are left as they are; racks go by their To, however far that is.
func TestF3Wrong(t *testing.T) {
	for _, odd := range []int{5, -5, 6, 1 << 32, 1<<32 + 4, -1 << 32, math.MaxInt, math.MinInt} {
		strange := stitch(odd+2, odd, odd, odd, odd)
		leaves(t, []api.Stitch{strange, misses(odd, odd, odd), strange}, []api.Stitch{strange, strange})
		leaves(t, []api.Stitch{racks(odd), strange, racks(odd), strange, racks(0)}, []api.Stitch{racks(odd), strange, strange, racks(0)})
		leaves(t, []api.Stitch{racks(1), racks(odd), strange}, []api.Stitch{racks(odd), strange})
		leaves(t, []api.Stitch{racks(odd), racks(1), strange}, []api.Stitch{racks(1), strange})
		leaves(t, []api.Stitch{racks(odd), misses(0, 0, 0), racks(0), strange}, []api.Stitch{strange})
		leaves(t, []api.Stitch{tucks(0, 0, 0), racks(odd), drops(0, 0), racks(-odd), drops(0, 0), racks(odd)}, notTwice(tucks(0, 0, 0), racks(odd), drops(0, 0), racks(-odd), drops(0, 0), racks(odd)))
	}
	for _, do := range []int{0, -1, -6, 7, 8, 16, 1<<32 + 3, 1<<32 + 6, 1<<8 + 6, math.MaxInt, math.MinInt} {
		none := stitch(do, 0, 0, 0, 0) // To is the rack that there is
		leaves(t, []api.Stitch{none, none, racks(1), none, racks(1), none}, []api.Stitch{none, none, racks(1), none, none})
	}
}

// notTwice leaves out a rack to the same place as the last one: that of -MinInt is MinInt.
func notTwice(l ...api.Stitch) []api.Stitch {
	rack := 0
	return slices.DeleteFunc(l, func(x api.Stitch) bool {
		last := rack
		if x.Do == api.StitchRack {
			rack = x.To
		}
		return x.Do == api.StitchRack && x.To == last
	})
}

// TestF3AsTheyAre: what stays has all its numbers, those that its kind does not name too; and these say nothing of whether it stays.
func TestF3AsTheyAre(t *testing.T) {
	for _, odd := range odds() {
		var l []api.Stitch
		for do := 1; do <= 5; do++ {
			l = append(l, stitch(do, odd, odd, odd, odd), stitch(do, 0, 0, 0, 0))
		}
		leaves(t, l, slices.Concat(l[:4], l[6:]))
		first, again, last := stitch(6, odd, 1, odd, 2), stitch(6, 1, odd, 3, 2), stitch(6, 0, odd, odd, 0)
		leaves(t, []api.Stitch{last, drops(0, 0), again, first, drops(1, 1), again, drops(2, 2), last}, []api.Stitch{drops(0, 0), first, drops(1, 1), drops(2, 2), last})
	}
}

// TestF3All: all lists of some stitches, up to seven of them.
func TestF3All(t *testing.T) {
	choices := []api.Stitch{tucks(0, 1, 2), misses(0, 1, 2), racks(0), racks(1), racks(-9), {}}
	var walk func(l []api.Stitch, left int)
	walk = func(l []api.Stitch, left int) {
		if got, want := fabric.Tidy(l), tidyByWords(l); !slices.Equal(got, want) {
			t.Fatalf("%v: %v is left, not %v", l, got, want)
		}
		for _, x := range choices {
			if left > 0 {
				walk(append(slices.Clip(l), x), left-1)
			}
		}
	}
	walk(nil, 7)
}

// TestF3Strewn: long lists without order; what is tidy stays as it is.
func TestF3Strewn(t *testing.T) {
	for seed := range 200 {
		next := strew(seed)
		var l []api.Stitch
		for range next(2000) {
			l = append(l, stitch([]int{1, 2, 3, 3, 4, 5, 6, 6, 6, 7}[next(10)], next(3), next(5), next(8), next(3)-1))
		}
		tidy := fabric.Tidy(l)
		leaves(t, l, tidyByWords(l))
		leaves(t, tidy, tidy)
	}
}
