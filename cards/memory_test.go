package cards_test

import (
	"fmt"
	"slices"
	"testing"

	"tapestry/api"
	"tapestry/cards"
)

// handed are truths and wrong ones, to be handed in; the first fit ones of them are right.
func handed() (l []api.Truth, fit int) {
	for _, x := range known() {
		l = append(l, x.m)
	}
	l = append(l, plainWeave(64, 64), every(64, 64), unlike(64, 64), strewn(13, 40, 3, 1))
	fit = len(l)
	return append(l, api.Truth{Wide: 65}, api.Truth{Wide: 2, High: 2, Bits: []bool{true, false, false}}, api.Truth{Wide: 65, High: 1, Bits: make([]bool, 65)}), fit
}

// answers are what comes of truths, and of their deck and pieces of it, as a text.
func answers(m api.Truth) string {
	b, err := cards.Pack(m)
	out := fmt.Sprintf("%q %d", b, err)
	for _, s := range []string{b, b[len(b)/2:], b[:len(b)/2], b + b} {
		got, fault := cards.Unpack(s)
		out += fmt.Sprint(got, fault)
	}
	return out
}

// TestE2OnlyReads: neither bits nor the spare room behind them are changed, nor is that room looked at.
func TestE2OnlyReads(t *testing.T) {
	all, _ := handed()
	for _, m := range all {
		want := answers(m)
		for _, what := range []bool{false, true} {
			whole := slices.Concat(m.Bits, slices.Repeat([]bool{what}, 70))
			kept := slices.Clone(whole)
			if got := answers(api.Truth{Wide: m.Wide, High: m.High, Bits: whole[:len(m.Bits)]}); got != want {
				t.Errorf("%v: with spare room full of %v comes %s, not %s", m, what, got, want)
			}
			if !slices.Equal(whole, kept) {
				t.Errorf("%v was changed", m)
			}
		}
	}
}

// spoil changes a list, and the spare room behind it.
func spoil(l []bool) {
	l = l[:cap(l)]
	for i := range l {
		l[i] = !l[i]
	}
}

// TestE2NewMemory: truths that are answered, their spare room too, have nothing to do with another answer.
func TestE2NewMemory(t *testing.T) {
	all, fit := handed()
	for _, m := range all[:fit] {
		b := pack(t, m)
		kept, _ := cards.Unpack(b)
		spoilt, _ := cards.Unpack(b)
		spoil(spoilt.Bits)
		if !same(kept, m) {
			t.Errorf("%v: answers share memory", m)
		}
		unpacksTo(t, b, m)
	}
}

// TestE2NotKept: what was handed in may be changed as soon as the call has answered.
func TestE2NotKept(t *testing.T) {
	all, fit := handed()
	for _, m := range all[:fit] {
		mine := m
		mine.Bits = slices.Clone(m.Bits)
		b := pack(t, mine)
		spoil(mine.Bits)
		if want := deckByWords(m); b != want || pack(t, m) != want {
			t.Errorf("%v: its deck was changed with it", m)
		}
	}
}

// TestE1SameAnswers: asked again, with others between, each call answers the same; also where several ask at once.
func TestE1SameAnswers(t *testing.T) {
	all, _ := handed()
	var first []string
	for _, m := range all {
		first = append(first, answers(m))
	}
	again := make([]string, len(all))
	done := make(chan int)
	for i := range all {
		go func() {
			again[i] = answers(all[i])
			done <- i
		}()
	}
	for range all {
		<-done
	}
	for i := len(all) - 1; i >= 0; i-- {
		if once := answers(all[i]); once != first[i] || again[i] != first[i] {
			t.Errorf("%s, then %s and %s", first[i], again[i], once)
		}
	}
}
