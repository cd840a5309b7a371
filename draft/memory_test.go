package draft_test

import (
	"fmt"
	"slices"
	"testing"

	"tapestry/api"
	"tapestry/draft"
)

// roomy is a list with spare room behind it that is full of what, and the whole of it.
func roomy[T any](l []T, what T) (out, whole []T) {
	whole = slices.Concat(l, slices.Repeat([]T{what}, 70))
	return whole[:len(l)], whole
}

// handed are drafts right and wrong, to be handed in.
func handed() []api.Draft {
	return []api.Draft{
		plainDraft(),
		{Threading: []int{0}, Tie: of("1"), Treadling: []int{0}},
		strewnDraft(64, 64, 64, 64, 5),
		strewnDraft(9, 4, 5, 12, 6),
		{Threading: []int{0, 3}, Tie: of("101", "010"), Treadling: []int{0}},
		{Threading: []int{0}, Tie: of("101", "010"), Treadling: []int{0, 2}},
		{Tie: of("101", "010"), Treadling: []int{0}},
		{Threading: []int{0}, Tie: of("101", "010")},
		{Threading: make([]int, 65), Tie: of("1"), Treadling: []int{0}},
		{Threading: []int{0}, Tie: api.Truth{Wide: 2, High: 2, Bits: []bool{true}}, Treadling: []int{0}},
		{},
	}
}

// answers are all answers about a draft and its Tie, as a text.
func answers(d api.Draft) string {
	m, errM := draft.Drawdown(d)
	f, errF := draft.Fewest(d.Tie)
	treadling, tie, threading, errC := draft.Chain(d)
	return fmt.Sprint(draft.Wrong(d), m, errM, f, errF, treadling, tie, threading, errC)
}

// TestE2OnlyReads: neither lists nor the spare room behind them are changed, nor is that room looked at.
func TestE2OnlyReads(t *testing.T) {
	for _, d := range handed() {
		want := answers(d)
		for _, what := range []int{-1, 0, 1} {
			var room api.Draft
			var ends, picks []int
			var bits []bool
			room.Threading, ends = roomy(d.Threading, what)
			room.Treadling, picks = roomy(d.Treadling, what)
			room.Tie = d.Tie
			room.Tie.Bits, bits = roomy(d.Tie.Bits, what == 1)
			keptEnds, keptPicks, keptBits := slices.Clone(ends), slices.Clone(picks), slices.Clone(bits)
			if got := answers(room); got != want {
				t.Errorf("%v: with spare room full of %d comes %s, not %s", d, what, got, want)
			}
			if !slices.Equal(ends, keptEnds) || !slices.Equal(picks, keptPicks) || !slices.Equal(bits, keptBits) {
				t.Errorf("%v was changed", d)
			}
		}
	}
}

// spoil changes a list, and the spare room behind it.
func spoil[T any](l []T, change func(T) T) {
	l = l[:cap(l)]
	for i := range l {
		l[i] = change(l[i])
	}
}

func spoilBits(m api.Truth) { spoil(m.Bits, func(b bool) bool { return !b }) }

func spoilNumbers(l []int) { spoil(l, func(n int) int { return n + 7 }) }

// spoils are answers about a draft, each with what spoils one of its lists.
func spoils(t *testing.T, d api.Draft) map[string]func() {
	m, f := drawdown(t, d), fewest(t, d.Tie)
	treadling, tie, threading := chain(t, d)
	return map[string]func(){
		"the drawdown":           func() { spoilBits(m) },
		"the chain's treadling":  func() { spoilBits(treadling) },
		"the chain's tie":        func() { spoilBits(tie) },
		"the chain's threading":  func() { spoilBits(threading) },
		"the fewest's Threading": func() { spoilNumbers(f.Threading) },
		"the fewest's Tie":       func() { spoilBits(f.Tie) },
		"the fewest's Treadling": func() { spoilNumbers(f.Treadling) },
	}
}

// TestE2NewMemory: what is answered, its spare room too, has nothing to do with what was handed in, nor with another answer.
func TestE2NewMemory(t *testing.T) {
	for _, d := range handed()[:4] {
		kept := fmt.Sprint(d)
		m := drawdown(t, d)
		f := fewest(t, d.Tie)
		treadling, tie, threading := chain(t, d)
		want := fmt.Sprint(m, f, treadling, tie, threading)
		for name, spoil := range spoils(t, d) {
			spoil()
			if fmt.Sprint(d) != kept || fmt.Sprint(m, f, treadling, tie, threading) != want {
				t.Errorf("%v, %s: memory is shared", d, name)
			}
		}
	}
}

// part is one list of an answer: what is in it, and what spoils it.
type part struct {
	show  func() string
	spoil func()
}

func bitsPart(m api.Truth) part {
	return part{func() string { return fmt.Sprint(m.Bits) }, func() { spoilBits(m) }}
}

func numbersPart(l []int) part {
	return part{func() string { return fmt.Sprint(l) }, func() { spoilNumbers(l) }}
}

// TestE2NoTwoListsShare: no list of an answer is changed with another one of the same answer.
func TestE2NoTwoListsShare(t *testing.T) {
	for _, d := range handed()[:4] {
		treadling, tie, threading := chain(t, d)
		apart(t, bitsPart(treadling), bitsPart(tie), bitsPart(threading))
		f := fewest(t, d.Tie)
		apart(t, numbersPart(f.Threading), bitsPart(f.Tie), numbersPart(f.Treadling))
	}
}

func apart(t *testing.T, parts ...part) {
	t.Helper()
	for i, one := range parts {
		for j, other := range parts {
			was := other.show()
			one.spoil()
			if (other.show() != was) != (i == j) {
				t.Errorf("spoiling list %d, list %d was %s, and is %s", i, j, was, other.show())
			}
		}
	}
}

// TestE2NotKept: what was handed in may be changed as soon as the call has answered.
func TestE2NotKept(t *testing.T) {
	for _, d := range handed()[:4] {
		mine := api.Draft{Threading: slices.Clone(d.Threading), Tie: d.Tie, Treadling: slices.Clone(d.Treadling)}
		mine.Tie.Bits = slices.Clone(d.Tie.Bits)
		m := drawdown(t, mine)
		f := fewest(t, mine.Tie)
		treadling, tie, threading := chain(t, mine)
		spoilNumbers(mine.Threading)
		spoilNumbers(mine.Treadling)
		spoilBits(mine.Tie)
		got := fmt.Sprint(api.OK, m, api.OK, f, api.OK, treadling, tie, threading, api.OK)
		if want := answers(d); got != want {
			t.Errorf("%v: the answers were changed with it: %s, not %s", d, got, want)
		}
	}
}

// TestE1SameAnswers: asked again, each call answers the same.
func TestE1SameAnswers(t *testing.T) {
	for _, d := range handed() {
		first := answers(d)
		answers(strewnDraft(50, 6, 7, 40, 2))
		if again := answers(d); again != first {
			t.Errorf("%s, then %s", first, again)
		}
	}
}
