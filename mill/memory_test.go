package mill_test

import (
	"fmt"
	"math"
	"slices"
	"testing"

	"tapestry/api"
	"tapestry/mill"
)

// spoil changes a list, and the spare room behind it.
func spoil[T any](l []T, with T) {
	l = l[:cap(l)]
	for i := range l {
		l[i] = with
	}
}

// roomy is a list with spare room behind it that is full of something, and the whole of it.
func roomy[T any](l []T, behind T) (out, whole []T) {
	whole = slices.Concat(l, slices.Repeat([]T{behind}, 9))
	return whole[:len(l)], whole
}

// roomyCloths are cloths with spare room behind them, and behind the bits of each; and the whole of all lists.
func roomyCloths(l []api.Truth, behind api.Truth, bit bool) (out, whole []api.Truth, bits [][]bool) {
	out, whole = roomy(l, behind)
	for i, m := range l {
		its, all := roomy(m.Bits, bit)
		out[i].Bits = its
		bits = append(bits, all)
	}
	return out, whole, bits
}

// planSays and weaveSays are all that is answered, as a text.
func planSays(picks []int, looms int) string {
	jobs, last, err := mill.Plan(picks, looms)
	return fmt.Sprint(jobs, last, err)
}

func weaveSays(l []api.Truth, looms int) string {
	decks, bytes, err := mill.Weave(l, looms)
	return fmt.Sprintf("%q %d %d", decks, bytes, err)
}

// own are the same cloths in memory of their own.
func own(l []api.Truth) []api.Truth {
	out := slices.Clone(l)
	for i := range out {
		out[i].Bits = slices.Clone(out[i].Bits)
	}
	return out
}

func sameCloth(one, other api.Truth) bool {
	return one.Wide == other.Wide && one.High == other.High && slices.Equal(one.Bits, other.Bits)
}

// asked is what Plan and Weave are asked, of as many looms.
type asked struct {
	picks []int
	l     []api.Truth
	looms int
}

// says is what both answer.
func (a asked) says() string { return planSays(a.picks, a.looms) + " " + weaveSays(a.l, a.looms) }

// own is the same with lists of its own.
func (a asked) own() asked { return asked{slices.Clone(a.picks), own(a.l), a.looms} }

// someAsked are right ones and wrong ones.
func someAsked() []asked {
	known, _, _ := woven()
	out := []asked{
		{nil, nil, 3},
		{[]int{3, 4}, known, 2},
		{[]int{3, 4}, known, 0},
		{[]int{3, 4}, known, 17},
		{[]int{3, -1, 4}, []api.Truth{of("1"), cutCloth(), noCloth()}, 2},
		{[]int{3, api.MaxCloth + 1}, []api.Truth{wideCloth(), highCloth()}, 16},
		{make([]int, 65), make([]api.Truth, 65), 5},
		{make([]int, 64), slices.Repeat([]api.Truth{plainWeave(64, 64)}, 64), 5},
	}
	for seed := range 12 {
		picks, looms := drawn(seed)
		out = append(out, asked{picks, strewnCloths(1+strewn(20, seed), 12, 300+seed), looms})
	}
	return out
}

// TestE2PlanOnlyReads: neither picks nor the spare room behind them are changed, nor is that room looked at.
func TestE2PlanOnlyReads(t *testing.T) {
	for _, a := range someAsked() {
		want := planSays(slices.Clone(a.picks), a.looms)
		for _, n := range []int{0, 1, -1, api.MaxCloth + 1, math.MinInt, math.MaxInt} {
			picks, whole := roomy(a.picks, n)
			if got := planSays(picks, a.looms); got != want {
				t.Errorf("with spare room full of %d comes %s, not %s", n, got, want)
			}
			if !slices.Equal(whole, slices.Concat(a.picks, slices.Repeat([]int{n}, 9))) {
				t.Errorf("%v was changed, or what stands behind it", a.picks)
			}
			spoil(whole, n)
			if got := planSays(slices.Clone(a.picks), a.looms); got != want {
				t.Errorf("behind picks that were changed comes %s, not %s", got, want)
			}
		}
	}
}

// TestE2WeaveOnlyReads: neither cloths, nor their bits, nor the spare room behind them are changed, nor is that room looked at.
func TestE2WeaveOnlyReads(t *testing.T) {
	for _, a := range someAsked() {
		want := weaveSays(own(a.l), a.looms)
		for _, behind := range []api.Truth{{}, cutCloth(), wideCloth(), of("10", "01")} {
			for _, bit := range []bool{false, true} {
				l, whole, bits := roomyCloths(a.l, behind, bit)
				if got := weaveSays(l, a.looms); got != want {
					t.Errorf("with spare room full of %v and %v comes %s, not %s", behind, bit, got, want)
				}
				isUntouched(t, a.l, behind, bit, whole, bits)
				for _, its := range bits {
					spoil(its, !bit)
				}
				spoil(whole, behind)
				if got := weaveSays(own(a.l), a.looms); got != want {
					t.Errorf("behind cloths that were changed comes %s, not %s", got, want)
				}
			}
		}
	}
}

// isUntouched: the whole of all lists is as it was made of these cloths.
func isUntouched(t *testing.T, l []api.Truth, behind api.Truth, bit bool, whole []api.Truth, bits [][]bool) {
	t.Helper()
	for i, m := range whole {
		if i < len(l) && !sameCloth(m, l[i]) || i >= len(l) && !sameCloth(m, behind) {
			t.Errorf("the cloth at %d was changed, to %v", i, m)
		}
	}
	for i, its := range bits {
		if !slices.Equal(its, slices.Concat(l[i].Bits, slices.Repeat([]bool{bit}, 9))) {
			t.Errorf("the bits of the cloth at %d were changed, or what stands behind them", i)
		}
	}
}

// TestE2PlanNewMemory: jobs, and the spare room behind them, have nothing to do with other jobs, nor with the picks that were handed in.
func TestE2PlanNewMemory(t *testing.T) {
	for _, a := range someAsked() {
		picks := slices.Clone(a.picks)
		first, last, err := mill.Plan(picks, a.looms)
		kept := slices.Clone(first)
		second, _, _ := mill.Plan(picks, a.looms)
		spoil(second, job(-7, 7))
		if !slices.Equal(first, kept) || !slices.Equal(picks, a.picks) {
			t.Errorf("%v: with other jobs changed they are %v", a.picks, first)
		}
		spoil(first, job(9, -9))
		third, again, errAgain := mill.Plan(picks, a.looms)
		if !slices.Equal(third, kept) || again != last || errAgain != err || !slices.Equal(picks, a.picks) {
			t.Errorf("%v: behind jobs that were changed come %v, %d, %d, not %v, %d, %d", a.picks, third, again, errAgain, kept, last, err)
		}
		spoil(picks, 77)
		if !slices.Equal(third, kept) {
			t.Errorf("%v: with its picks changed the jobs are %v", a.picks, third)
		}
	}
}

// TestE2WeaveNewMemory: likewise cards, and the cloths that were handed in.
func TestE2WeaveNewMemory(t *testing.T) {
	for _, a := range someAsked() {
		l := own(a.l)
		first, bytes, err := mill.Weave(l, a.looms)
		kept := slices.Clone(first)
		second, _, _ := mill.Weave(l, a.looms)
		spoil(second, "torn")
		if !slices.Equal(first, kept) {
			t.Errorf("%d looms: with other decks changed they are %q", a.looms, first)
		}
		spoil(first, "lost")
		third, again, errAgain := mill.Weave(l, a.looms)
		if !slices.Equal(third, kept) || again != bytes || errAgain != err {
			t.Errorf("%d looms: behind decks that were changed come %q, %d, %d, not %q, %d, %d", a.looms, third, again, errAgain, kept, bytes, err)
		}
		for i := range l {
			spoil(l[i].Bits, true)
		}
		spoil(l, cutCloth())
		if !slices.Equal(third, kept) {
			t.Errorf("%d looms: with its cloths changed the decks are %q", a.looms, third)
		}
	}
}

// TestE2NothingKept: the same lists, changed between calls, are looked at anew each time.
func TestE2NothingKept(t *testing.T) {
	picks := []int{3, 4, 5}
	isPlanned(t, picks, 2, []api.Job{job(0, 0), job(1, 0), job(0, 3)}, 8)
	picks[0] = 6
	isPlanned(t, picks, 2, []api.Job{job(0, 0), job(1, 0), job(1, 4)}, 9)
	picks[2] = -1
	planTells(t, picks, 2, api.ErrRange)
	l := []api.Truth{of("1", "0"), of("11")}
	isWoven(t, l, 2, []string{"JQ1\x01\x02\x01\x80\x01\x00\xaf", "JQ1\x02\x01\x01\xc0\x70"}, 18)
	l[0].Bits[1] = true
	isWoven(t, l, 2, []string{"JQ1\x01\x02\x02\x80\xaf", "JQ1\x02\x01\x01\xc0\x70"}, 16)
	l[1].Wide = 3
	weaveTells(t, l, 2, api.ErrFit)
	l[1] = of("1")
	isWoven(t, l, 2, []string{"JQ1\x01\x02\x02\x80\xaf", "JQ1\x01\x01\x01\x80\xb1"}, 16)
}

// TestE3NoEntries: nil and a list without entries answer alike, that one too that has spare room; so do the bits of a cloth.
func TestE3NoEntries(t *testing.T) {
	noBits := [][]bool{nil, {}, make([]bool, 0, 8), []bool{true}[:0]}
	for _, looms := range []int{math.MinInt, -1, 0, 1, 2, 16, 17, math.MaxInt} {
		for _, picks := range [][]int{{}, make([]int, 0, 8), []int{-1, 3}[:0]} {
			if planSays(picks, looms) != planSays(nil, looms) {
				t.Errorf("%d looms: %s, of nil %s", looms, planSays(picks, looms), planSays(nil, looms))
			}
		}
		for _, l := range [][]api.Truth{{}, make([]api.Truth, 0, 8), []api.Truth{cutCloth(), of("1")}[:0]} {
			if weaveSays(l, looms) != weaveSays(nil, looms) {
				t.Errorf("%d looms: %s, of nil %s", looms, weaveSays(l, looms), weaveSays(nil, looms))
			}
		}
		for _, bits := range noBits {
			for _, sides := range [][2]int{{0, 0}, {3, 0}, {0, 3}, {1, 1}, {65, 0}} {
				m := api.Truth{Wide: sides[0], High: sides[1]}
				want := weaveSays([]api.Truth{m, of("1")}, looms)
				m.Bits = bits
				if got := weaveSays([]api.Truth{m, of("1")}, looms); got != want {
					t.Errorf("%d looms, %v: %s, of nil %s", looms, sides, got, want)
				}
			}
		}
	}
}

// everything is what is answered of all that these tests ask, in an order that begins elsewhere for each turn.
func everything(turn int, all []asked) []string {
	out := make([]string, len(all))
	for i := range all {
		at := (i + turn) % len(all)
		out[at] = all[at].says()
	}
	return out
}

// TestE1SameLists: asked again, in any order and by several goroutines, about the same lists, each call answers the same.
func TestE1SameLists(t *testing.T) {
	all := someAsked()
	var want []string
	for _, a := range all {
		want = append(want, a.own().says())
	}
	told := make([][]string, 12)
	ends(t, func() {
		ready := make(chan int)
		for i := range told {
			go func() {
				told[i] = everything(i, all)
				ready <- i
			}()
		}
		for range told {
			<-ready
		}
	})
	for i, got := range told {
		if !slices.Equal(got, want) || !slices.Equal(everything(i, all), want) {
			t.Errorf("from %d on: %v, not %v", i, got, want)
		}
	}
}
