package twill_test

import (
	"fmt"
	"slices"
	"testing"

	"tapestry/api"
	"tapestry/twill"
)

// roomy is a list with spare room behind it that is full of what, and the whole of it.
func roomy[T any](l []T, what T) (out, whole []T) {
	whole = slices.Concat(l, slices.Repeat([]T{what}, 70))
	return whole[:len(l)], whole
}

// spoil changes a list, and the spare room behind it.
func spoil[T any](l []T, change func(T) T) {
	l = l[:cap(l)]
	for i := range l {
		l[i] = change(l[i])
	}
}

func spoilBits(l []bool) { spoil(l, func(b bool) bool { return !b }) }

func spoilNumbers(l []int) { spoil(l, func(n int) int { return n + 7 }) }

// handedRuns and handedTruths are right and wrong ones, to be handed in.
func handedRuns() [][]int {
	return [][]int{{2, 2}, {1, 1}, {3, 1, 1, 2}, {32, 32}, strewnRuns(16, 64, 3), nil, {1}, {2, 2, 1}, {0, 1}, {65, 1}, {40, 25}, make([]int, 18)}
}

func handedTruths() []api.Truth {
	return []api.Truth{of("1"), of("10", "01"), of("11", "10"), of("1100", "1010"), striped(64, 64, 4), strewn(9, 5, 2, 1), none(3, 0), none(0, 3), {}, {Wide: 2, High: 2, Bits: []bool{true}}}
}

// twillAnswers and evenAnswer are what is answered, as a text.
func twillAnswers(runs []int) string {
	out := ""
	for _, move := range []int{0, 1, 2, 3, 63, 64} {
		m, err := twill.Twill(runs, move)
		out += fmt.Sprint(m, err)
	}
	return out
}

func evenAnswer(m api.Truth) string {
	even, err := twill.Even(m)
	return fmt.Sprint(even, err)
}

// TestE2OnlyReads: neither lists nor the spare room behind them are changed, nor is that room looked at.
func TestE2OnlyReads(t *testing.T) {
	for _, runs := range handedRuns() {
		want := twillAnswers(runs)
		for _, what := range []int{-1, 0, 1, 65} {
			room, whole := roomy(runs, what)
			kept := slices.Clone(whole)
			if got := twillAnswers(room); got != want {
				t.Errorf("%v: with spare room full of %d comes %s, not %s", runs, what, got, want)
			}
			if !slices.Equal(whole, kept) {
				t.Errorf("%v was changed", runs)
			}
		}
	}
	for _, m := range handedTruths() {
		want := evenAnswer(m)
		for _, what := range []bool{false, true} {
			bits, whole := roomy(m.Bits, what)
			kept := slices.Clone(whole)
			if got := evenAnswer(api.Truth{Wide: m.Wide, High: m.High, Bits: bits}); got != want {
				t.Errorf("%v: with spare room full of %v comes %s, not %s", m, what, got, want)
			}
			if !slices.Equal(whole, kept) {
				t.Errorf("%v was changed", m)
			}
		}
	}
}

// TestE2NewMemory: what is answered, its spare room too, has nothing to do with another answer, nor with what was handed in.
func TestE2NewMemory(t *testing.T) {
	for _, runs := range handedRuns()[:5] {
		mine := slices.Clone(runs)
		one, other := made(t, mine, 1), made(t, mine, 1)
		spoilBits(one.Bits)
		if !slices.Equal(mine, runs) {
			t.Errorf("%v is changed with its twill", runs)
		}
		spoilNumbers(mine)
		isTwill(t, other, runs, 1)
		isTwill(t, made(t, runs, 1), runs, 1)
	}
	for _, ends := range []int{5, 7, 8, 61, 64} {
		want := movesByWords(ends)
		one, other := moves(t, ends), moves(t, ends)
		spoilNumbers(one)
		if !slices.Equal(other, want) || !slices.Equal(moves(t, ends), want) {
			t.Errorf("the moves of %d ends share memory", ends)
		}
		first, second := satin(t, ends, 3), satin(t, ends, 3)
		spoilBits(first.Bits)
		isTwill(t, second, []int{1, ends - 1}, 3)
		isTwill(t, satin(t, ends, 3), []int{1, ends - 1}, 3)
	}
}

// TestE1SameAnswers: asked again, each call answers the same.
func TestE1SameAnswers(t *testing.T) {
	first := everything()
	if again := everything(); again != first {
		t.Errorf("%s, then %s", first, again)
	}
}

// everything is all answers about what is handed in, as a text.
func everything() string {
	out := ""
	for _, runs := range handedRuns() {
		out += twillAnswers(runs)
	}
	for ends := range 66 {
		l, err := twill.Moves(ends)
		m, errS := twill.Satin(ends, 5)
		out += fmt.Sprint(l, err, m, errS)
	}
	for _, m := range handedTruths() {
		out += evenAnswer(m)
	}
	return out
}
