package cloth_test

import (
	"fmt"
	"slices"
	"testing"

	"tapestry/api"
	"tapestry/cloth"
)

// handed are cloths and wrong ones, to be handed in; the first fit ones of them are cloths.
func handed() (l []api.Truth, fit int) {
	for _, x := range known() {
		l = append(l, x.m)
	}
	l = append(l, plainWeave(64, 64), every(64, 64), layered(64, 64, 20, 1), layered(40, 9, 5, 2))
	fit = len(l)
	return append(l, api.Truth{}, none(3, 0), none(0, 3), api.Truth{Wide: 2, High: 2, Bits: []bool{true, false, false}}, api.Truth{Wide: 65, High: 1, Bits: make([]bool, 65)}), fit
}

// answers are all answers about a cloth, as a text.
func answers(m api.Truth) string {
	lifted, errLift := cloth.Lift(m)
	hangs, errHangs := cloth.Hangs(m)
	sheets, errLayers := cloth.Layers(m)
	return fmt.Sprint(lifted, errLift, hangs, errHangs, sheets, errLayers)
}

// TestE2OnlyReads: neither bits nor the spare room behind them are changed, nor is that room looked at.
func TestE2OnlyReads(t *testing.T) {
	all, _ := handed()
	for _, m := range all {
		want := answers(m)
		for _, what := range []bool{false, true} {
			whole := slices.Concat(m.Bits, slices.Repeat([]bool{what}, 70))
			kept := slices.Clone(whole)
			if got := answers(api.Truth{Wide: m.Wide, High: m.High, Bits: whole[:len(m.Bits)]}); got != want {
				t.Errorf("%v: with spare room full of %v comes %s, not %s", m, what, got, want)
			}
			if !slices.Equal(whole, kept) {
				t.Errorf("%v was changed", m)
			}
		}
	}
}

// spoil changes a list, and the spare room behind it.
func spoil(l []int) {
	l = l[:cap(l)]
	for i := range l {
		l[i] += 1000
	}
}

// TestE2NewMemory: what is answered, its spare room too, has nothing to do with another answer.
func TestE2NewMemory(t *testing.T) {
	all, fit := handed()
	for _, m := range all[:fit] {
		want := answers(m)
		lifted, sheets := lift(t, m), layers(t, m)
		keptLifted, keptSheets := fmt.Sprint(lifted), fmt.Sprint(sheets)
		spoil(lift(t, m))
		spoilt := layers(t, m)
		for _, sheet := range spoilt {
			spoil(sheet)
		}
		clear(spoilt[:cap(spoilt)])
		if fmt.Sprint(lifted) != keptLifted || fmt.Sprint(sheets) != keptSheets || answers(m) != want {
			t.Errorf("%v: answers share memory", m)
		}
	}
}

// TestE2NoTwoListsShare: no sheet is changed with another one of the same answer, nor with what is added to one.
func TestE2NoTwoListsShare(t *testing.T) {
	all, fit := handed()
	for _, m := range all[:fit] {
		sheets := layers(t, m)
		var want [][]int
		for _, sheet := range sheets {
			want = append(want, slices.Clone(sheet))
		}
		for i := range sheets {
			spoil(sheets[i])
			for n := range want[i] {
				want[i][n] += 1000
			}
			if !sameSheets(sheets, want) {
				t.Fatalf("%v: with sheet %d others are changed: %v", m, i, sheets)
			}
		}
	}
}

// TestE2NotKept: what was handed in may be changed as soon as the call has answered.
func TestE2NotKept(t *testing.T) {
	all, fit := handed()
	for _, m := range all[:fit] {
		mine := m
		mine.Bits = slices.Clone(m.Bits)
		lifted, sheets := lift(t, mine), layers(t, mine)
		for i := range mine.Bits {
			mine.Bits[i] = !mine.Bits[i]
		}
		if !slices.Equal(lifted, lift(t, m)) || !sameSheets(sheets, layers(t, m)) {
			t.Errorf("%v: the answers were changed with it", m)
		}
	}
}

// TestE1SameAnswers: asked again, with other cloths between, each call answers the same.
func TestE1SameAnswers(t *testing.T) {
	all, _ := handed()
	var first []string
	for _, m := range all {
		first = append(first, answers(m))
	}
	for i := len(all) - 1; i >= 0; i-- {
		if again := answers(all[i]); again != first[i] {
			t.Errorf("%s, then %s", first[i], again)
		}
	}
}
