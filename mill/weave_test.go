package mill_test

import (
	"math"
	"runtime"
	"runtime/metrics"
	"slices"
	"strconv"
	"testing"
	"time"

	"tapestry/api"
	"tapestry/draft"
	"tapestry/mill"
)

// woven are cloths with the bytes that must come of them.
func woven() (l []api.Truth, decks []string, bytes int) {
	for _, x := range []struct {
		m    api.Truth
		deck string
	}{
		{of("1"), "JQ1\x01\x01\x01\x80\xb1"},
		{of("1", "0"), "JQ1\x01\x02\x01\x80\x01\x00\xaf"},
		{of("11"), "JQ1\x02\x01\x01\xc0\x70"},
		{of("101", "101"), "JQ1\x03\x02\x02\xa0\x8d"},
		{of("10", "01"), "JQ1\x02\x02\x01\x80\x01\x40\x6e"},
		{of("11", "11", "10", "11", "11", "11"), "JQ1\x02\x06\x02\xc0\x01\x80\x03\xc0\x26"},
		{of("100000011", "010000000"), "JQ1\x09\x02\x01\x81\x80\x01\x40\x00\xe6"},
	} {
		l, decks = append(l, x.m), append(decks, x.deck)
		bytes += len(x.deck)
	}
	return l, decks, bytes
}

// TestM2Known: each cloth alone, all of them in their order and in other ones, for each number of looms.
func TestM2Known(t *testing.T) {
	l, decks, bytes := woven()
	if bytes != 8+10+8+8+10+12+12 {
		t.Fatalf("%d bytes", bytes)
	}
	for looms := 1; looms <= api.MaxLooms; looms++ {
		for i := range l {
			isWoven(t, l[i:i+1], looms, decks[i:i+1], len(decks[i]))
			isWoven(t, slices.Concat(l[i:], l[:i]), looms, slices.Concat(decks[i:], decks[:i]), bytes)
		}
		isWoven(t, slices.Repeat(l, 9), looms, slices.Repeat(decks, 9), 9*bytes)
		slices.Reverse(l)
		slices.Reverse(decks)
		isWoven(t, l, looms, decks, bytes)
	}
}

// TestM2Nothing: of no cloths nothing, and 0.
func TestM2Nothing(t *testing.T) {
	for looms := 1; looms <= api.MaxLooms; looms++ {
		for _, none := range [][]api.Truth{nil, {}, make([]api.Truth, 0, 5)} {
			isWoven(t, none, looms, nil, 0)
		}
	}
}

// someCloths are lists of right cloths: one, some that are all alike, some of unlike sizes, and as many as there may be.
func someCloths() map[string][]api.Truth {
	rising := strewnCloths(api.MaxJobs, api.MaxTruth, 4)
	slices.SortFunc(rising, func(one, other api.Truth) int { return len(one.Bits) - len(other.Bits) })
	falling := slices.Clone(rising)
	slices.Reverse(falling)
	small := strewnCloths(20, 4, 5)
	great := []api.Truth{strewnCloth(64, 64, 6)}
	return map[string][]api.Truth{
		"one":                       {plainWeave(5, 4)},
		"the greatest alone":        great,
		"two":                       {plainWeave(5, 4), strewnCloth(9, 9, 7)},
		"alike":                     slices.Repeat([]api.Truth{strewnCloth(20, 30, 8)}, 20),
		"the greatest first":        slices.Concat(great, small),
		"the greatest last":         slices.Concat(small, great),
		"the greatest in the midst": slices.Concat(small[:10], great, small[10:]),
		"each greater":              rising,
		"each smaller":              falling,
		"as many as there may be":   strewnCloths(api.MaxJobs, 12, 9),
		"and as great":              slices.Repeat(great, api.MaxJobs),
		"fifteen":                   strewnCloths(api.MaxLooms-1, 30, 10),
		"sixteen":                   strewnCloths(api.MaxLooms, 30, 11),
		"seventeen":                 strewnCloths(api.MaxLooms+1, 30, 12),
	}
}

// TestM2AsPackTells: of each cloth, in their order, its cards, and how many bytes they have together, for each number of looms.
func TestM2AsPackTells(t *testing.T) {
	for name, l := range someCloths() {
		t.Run(name, func(t *testing.T) {
			want, bytes, err := weaveByWords(l)
			if err != api.OK {
				t.Fatal(err)
			}
			for looms := 1; looms <= api.MaxLooms; looms++ {
				isWoven(t, l, looms, want, bytes)
			}
		})
	}
}

// TestM2MostBytes: MaxJobs cloths of MaxTruth by MaxTruth, of which no row is as the one ahead of it: cards for each row.
func TestM2MostBytes(t *testing.T) {
	for looms := 1; looms <= api.MaxLooms; looms++ {
		decks, bytes, err := mill.Weave(slices.Repeat([]api.Truth{plainWeave(64, 64)}, 64), looms)
		if err != api.OK || len(decks) != 64 || len(decks[63]) != 582 || bytes != 64*582 {
			t.Errorf("%d looms: %d decks of %d bytes, %d", looms, len(decks), bytes, err)
		}
	}
}

// TestM2Drawn: drawn lists of cloths, up to three wrong ones among them.
func TestM2Drawn(t *testing.T) {
	wrong := wrongCloths()
	for seed := range 400 {
		l := strewnCloths(1+strewn(api.MaxJobs, 3*seed), 1+strewn(16, 3*seed+1), 100+seed)
		for n := range seed % 4 {
			l[strewn(len(l), 900*seed+2*n)] = wrong[strewn(len(wrong), 900*seed+2*n+1)].m
		}
		looms := 1 + strewn(api.MaxLooms, 3*seed+2)
		want, bytes, err := weaveByWords(l)
		if err != api.OK {
			weaveTells(t, l, looms, err)
			continue
		}
		isWoven(t, l, looms, want, bytes)
	}
}

// TestM2OneWrong: a cloth of which Fewest tells an error, as the first, in the middle and as the last.
func TestM2OneWrong(t *testing.T) {
	for _, x := range wrongCloths() {
		if _, err := draft.Fewest(x.m); err != x.err {
			t.Fatalf("Fewest of %v: %d, not %d", x.m, err, x.err)
		}
		for looms := 1; looms <= api.MaxLooms; looms++ {
			for _, right := range []api.Truth{of("1"), strewnCloth(20, 20, 1)} {
				for _, many := range []int{1, 2, 3, 16, 17, api.MaxJobs} {
					for _, l := range amidst(many, right, x.m) {
						weaveTells(t, l, looms, x.err)
					}
				}
			}
		}
	}
}

// TestM2NoBits: cloths without bits have cards, but no draft.
func TestM2NoBits(t *testing.T) {
	for n := range api.MaxTruth + 1 {
		for _, m := range []api.Truth{{Wide: n}, {High: n}} {
			weaveTells(t, []api.Truth{m}, 3, api.ErrMany)
			weaveTells(t, []api.Truth{of("1"), m, of("0")}, 3, api.ErrMany)
		}
	}
}

// TestM2TwoWrong: of two unlike errors, in either order, that of the first cloth is told, for each number of looms; time and again, as it may hang on how goroutines run.
func TestM2TwoWrong(t *testing.T) {
	wrong := wrongCloths()
	for _, places := range [][2]int{{0, 1}, {0, 63}, {31, 32}, {1, 62}, {62, 63}} {
		for _, right := range []api.Truth{of("1"), strewnCloth(64, 64, 2)} {
			l := slices.Repeat([]api.Truth{right}, api.MaxJobs)
			for looms := 1; looms <= api.MaxLooms; looms++ {
				for i, one := range wrong[:3] {
					for _, other := range slices.Concat(wrong[:i], wrong[i+1:3]) {
						l[places[0]], l[places[1]] = one.m, other.m
						weaveTells(t, l, looms, one.err)
					}
				}
			}
		}
	}
	for range 300 {
		for looms := 2; looms <= api.MaxLooms; looms++ {
			weaveTells(t, []api.Truth{cutCloth(), noCloth(), wideCloth()}, looms, api.ErrFit)
			weaveTells(t, []api.Truth{noCloth(), cutCloth(), wideCloth()}, looms, api.ErrMany)
			weaveTells(t, []api.Truth{highCloth(), cutCloth(), noCloth()}, looms, api.ErrRange)
		}
	}
}

// TestM2WrongBehindGreat: the first wrong cloth is told also where the ones ahead of it take long, and the next wrong one stands behind such ones.
func TestM2WrongBehindGreat(t *testing.T) {
	great := slices.Repeat([]api.Truth{strewnCloth(64, 64, 3)}, 3)
	for looms := 1; looms <= api.MaxLooms; looms++ {
		weaveTells(t, slices.Concat(great, []api.Truth{cutCloth(), noCloth()}), looms, api.ErrFit)
		weaveTells(t, slices.Concat(great, []api.Truth{noCloth()}, great, []api.Truth{cutCloth()}), looms, api.ErrMany)
	}
}

// TestM2TimeAndAgain: the same call answers the same, many times over, and ends each time.
func TestM2TimeAndAgain(t *testing.T) {
	l := strewnCloths(api.MaxJobs, 9, 13)
	want, bytes, _ := weaveByWords(l)
	ends(t, func() {
		for range 200 {
			for _, looms := range []int{1, 2, 3, 8, 15, 16} {
				isWoven(t, l, looms, want, bytes)
				isWoven(t, l[:3], looms, want[:3], len(want[0])+len(want[1])+len(want[2]))
				isWoven(t, nil, looms, nil, 0)
			}
		}
	})
}

// TestM2OnFewCores: what comes out is the same, however many goroutines can run at the same time.
func TestM2OnFewCores(t *testing.T) {
	cores := runtime.GOMAXPROCS(0)
	defer runtime.GOMAXPROCS(cores)
	l := strewnCloths(40, 20, 14)
	want, bytes, _ := weaveByWords(l)
	for _, n := range []int{1, 2, 3, 40} {
		runtime.GOMAXPROCS(n)
		ends(t, func() {
			for looms := 1; looms <= api.MaxLooms; looms++ {
				isWoven(t, l, looms, want, bytes)
				weaveTells(t, append(slices.Clone(l), cutCloth(), noCloth()), looms, api.ErrFit)
			}
		})
	}
}

// created is how many goroutines there have been since the beginning.
func created() int {
	l := []metrics.Sample{{Name: "/sched/goroutines-created:goroutines"}}
	metrics.Read(l)
	return int(l[0].Value.Uint64())
}

// TestM2SoManyGoroutines: there come as many goroutines as looms, of few cloths and of many. Others may come beside them, of the tests or of the library, so the least of some tries is held.
func TestM2SoManyGoroutines(t *testing.T) {
	for _, many := range []int{0, 1, 5, 16, 17, api.MaxJobs} {
		l := slices.Repeat([]api.Truth{strewnCloth(10, 10, 15)}, many)
		for looms := 1; looms <= api.MaxLooms; looms++ {
			least := math.MaxInt
			for range 20 {
				before := created()
				mill.Weave(l, looms)
				least = min(least, created()-before)
			}
			if least != looms {
				t.Errorf("%d looms, %d cloths: %d goroutines", looms, many, least)
			}
		}
	}
}

// TestM2NoneIsLeft: behind the call no goroutine of it is left; one that has ended may be counted for a moment yet.
func TestM2NoneIsLeft(t *testing.T) {
	before := runtime.NumGoroutine()
	for looms := 1; looms <= api.MaxLooms; looms++ {
		for _, l := range [][]api.Truth{nil, {of("1")}, {cutCloth(), of("1"), noCloth()}, slices.Repeat([]api.Truth{plainWeave(30, 30)}, 40)} {
			mill.Weave(l, looms)
		}
	}
	for till := time.Now().Add(20 * time.Second); runtime.NumGoroutine() > before && time.Now().Before(till); {
		time.Sleep(time.Millisecond)
	}
	if left := runtime.NumGoroutine() - before; left > 0 {
		t.Errorf("%d goroutines are left", left)
	}
}

// TestM2SideBySide: several calls at the same time, of unlike cloths, right and wrong ones, on unlike numbers of looms: each answers as if it were alone.
func TestM2SideBySide(t *testing.T) {
	l := strewnCloths(api.MaxJobs, 16, 16)
	wrong := append(slices.Clone(l[:30]), noCloth(), wideCloth(), cutCloth())
	want, bytes, _ := weaveByWords(l)
	ends(t, func() {
		ready := make(chan int)
		for i := range 12 {
			go func() {
				for n := range 20 {
					looms := 1 + (5*i+n)%api.MaxLooms
					isWoven(t, l, looms, want, bytes)
					weaveTells(t, wrong, looms, api.ErrMany)
					isWoven(t, l[i:i+1], looms, want[i:i+1], len(want[i]))
					isPlanned(t, []int{3, i, n, 4}, 1, []api.Job{job(0, 0), job(0, 3), job(0, 3+i), job(0, 3+i+n)}, 7+i+n)
				}
				ready <- i
			}()
		}
		for range 12 {
			<-ready
		}
	})
}

// TestM2LoomsTellNothing: how many looms there are is not to be seen in what comes out, for lists of any length.
func TestM2LoomsTellNothing(t *testing.T) {
	for many := range api.MaxJobs + 1 {
		l := strewnCloths(many, 10, 200+many)
		want, bytes, _ := weaveByWords(l)
		t.Run(strconv.Itoa(many), func(t *testing.T) {
			for looms := 1; looms <= api.MaxLooms; looms++ {
				isWoven(t, l, looms, want, bytes)
			}
		})
	}
}
