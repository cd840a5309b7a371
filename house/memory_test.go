package house_test

import (
	"fmt"
	"math"
	"slices"
	"strings"
	"testing"

	"tapestry/api"
	"tapestry/house"
)

// spoil changes a list, and the spare room behind it.
func spoil[T any](l []T, with T) {
	l = l[:cap(l)]
	for i := range l {
		l[i] = with
	}
}

// spoilMade changes all lists of what was made, and their spare room.
func spoilMade(m api.Made, with int) {
	spoil(m.Draft.Threading, with)
	spoil(m.Draft.Tie.Bits, with%2 == 0)
	spoil(m.Draft.Treadling, with)
	spoil(m.Lift, with)
}

// spoilWorked changes all that Work has answered.
func spoilWorked(made []api.Made, faults []api.Fault, with int) {
	for _, m := range made {
		spoilMade(m, with)
	}
	spoil(made, api.Made{Points: with})
	spoil(faults, api.Fault{At: with})
}

// own is the same in memory of its own.
func own(m api.Made) api.Made {
	m.Draft.Threading = slices.Clone(m.Draft.Threading)
	m.Draft.Tie.Bits = slices.Clone(m.Draft.Tie.Bits)
	m.Draft.Treadling = slices.Clone(m.Draft.Treadling)
	m.Lift = slices.Clone(m.Lift)
	return m
}

// asked is what Work is asked.
type asked struct {
	texts []string
	hands int
}

// says is all that it answers, as a text.
func (a asked) says() string {
	made, faults, err := house.Work(a.texts, a.hands)
	return fmt.Sprintf("%+v %v %d", made, faults, err)
}

// own is the same with a list of its own, without spare room.
func (a asked) own() asked {
	return asked{slices.Clip(slices.Clone(a.texts)), a.hands}
}

// someAsked are right ones and wrong ones.
func someAsked() []asked {
	texts, _, _ := known()
	out := []asked{
		{nil, 3},
		{texts, 2},
		{texts, 0},
		{texts, 17},
		{textsOf(64), 16},
		{textsOf(65), 5},
		{wrongOnes(), 4},
		{slices.Repeat([]string{"□\n·█\n█·\n"}, 20), 7},
	}
	for seed := range 8 {
		out = append(out, asked{someTexts(1+strewn(30, seed), 300+seed), 1 + strewn(16, 50+seed)})
	}
	return out
}

// TestE2OnlyReads: neither the texts nor the spare room behind them are changed, nor is that room looked at; nor does it change an answer when they are changed behind it.
func TestE2OnlyReads(t *testing.T) {
	for _, a := range someAsked() {
		want := a.own().says()
		for _, behind := range []string{"", "?", "□\n·\n", "△\n█·\nzω\n"} {
			whole := append(slices.Clone(a.texts), slices.Repeat([]string{behind}, 80)...)
			roomy := asked{whole[:len(a.texts)], a.hands}
			if got := roomy.says(); got != want {
				t.Errorf("with spare room full of %q comes %.900q, not %.900q", behind, got, want)
			}
			if !slices.Equal(whole, slices.Concat(a.texts, slices.Repeat([]string{behind}, 80))) {
				t.Errorf("%d texts were changed, or what stands behind them", len(a.texts))
			}
			made, faults, err := house.Work(roomy.texts, roomy.hands)
			spoil(whole, behind)
			if got := fmt.Sprintf("%+v %v %d", made, faults, err); got != want {
				t.Errorf("with its texts changed to %q comes %.900q, not %.900q", behind, got, want)
			}
		}
	}
}

// TestE2WorkNewMemory: changing an answer, its spare room too, changes no other one.
func TestE2WorkNewMemory(t *testing.T) {
	for _, a := range someAsked() {
		want := a.own().says()
		first, firstFaults, err := house.Work(a.texts, a.hands)
		second, secondFaults, _ := house.Work(a.texts, a.hands)
		spoilWorked(second, secondFaults, -7)
		if got := fmt.Sprintf("%+v %v %d", first, firstFaults, err); got != want {
			t.Errorf("with another answer changed it is %.900q, not %.900q", got, want)
		}
		spoilWorked(first, firstFaults, 8)
		if got := a.says(); got != want {
			t.Errorf("behind an answer that was changed comes %.900q, not %.900q", got, want)
		}
	}
}

// TestE2MakeNewMemory: likewise, what Make answers.
func TestE2MakeNewMemory(t *testing.T) {
	for text := range byHand() {
		first, fault := house.Make(text)
		kept := own(first)
		second, _ := house.Make(text)
		spoilMade(second, -7)
		isThat(t, text, first, fault, kept, api.Fault{})
		spoilMade(first, 8)
		third, again := house.Make(text)
		isThat(t, text, third, again, kept, api.Fault{})
	}
}

// TestE2NothingShared: each list of an answer is filled with a number of its own, its spare room too: all of them keep theirs, those of alike texts too.
func TestE2NothingShared(t *testing.T) {
	lists := someLists()
	lists["greatest"] = greatest()[:api.MaxJobs]
	for name, texts := range lists {
		made, faults, err := house.Work(texts, 5)
		if err != api.OK {
			t.Fatal(name, err)
		}
		var numbers [][]int
		var bits [][]bool
		for _, m := range made {
			numbers = append(numbers, m.Draft.Threading, m.Draft.Treadling, m.Lift)
			bits = append(bits, m.Draft.Tie.Bits)
		}
		for i, l := range numbers {
			spoil(l, -1-i)
		}
		for i, l := range numbers {
			if n := slices.IndexFunc(l[:cap(l)], func(n int) bool { return n != -1-i }); n >= 0 {
				t.Errorf("%s: list %d of numbers shares its place %d with another one", name, i, n)
			}
		}
		for i, l := range bits {
			for _, other := range bits {
				spoil(other, false)
			}
			spoil(l, true)
			for j, other := range bits {
				if j != i && slices.Contains(other[:cap(other)], true) {
					t.Errorf("%s: the ties of %d and %d share room", name, i, j)
				}
			}
		}
		if len(made) != len(texts) || len(faults) != len(texts) {
			t.Errorf("%s: of %d texts come %d and %d", name, len(texts), len(made), len(faults))
		}
	}
}

// TestE2NothingKept: the same list, changed between calls, is looked at anew each time.
func TestE2NothingKept(t *testing.T) {
	texts := []string{"□\n·█\n█·\n", "?", "△\n·\n"}
	isWorked(t, texts, 2)
	texts[0], texts[1] = "△\n·█\n█·\n", "□\n0\n·\n"
	isWorked(t, texts, 2)
	texts[2] = "□\n0\n·"
	isWorked(t, texts, 2)
	isWorked(t, texts[1:], 2)
	workTells(t, texts, 0, api.ErrRange)
	isWorked(t, texts, 2)
}

// TestE3NoEntries: nil and a list without entries answer alike, that one too that has spare room.
func TestE3NoEntries(t *testing.T) {
	for _, hands := range []int{math.MinInt, -1, 0, 1, 2, 16, 17, math.MaxInt} {
		want := asked{nil, hands}.says()
		for _, texts := range [][]string{{}, make([]string, 0, 8), []string{"□\n·\n", "?"}[:0], make([]string, 65)[:0]} {
			if got := (asked{texts, hands}).says(); got != want {
				t.Errorf("%d hands: %s, of nil %s", hands, got, want)
			}
		}
	}
}

// TestE1SameTexts: asked again, in any order and by several goroutines, about the same texts, each call answers the same.
func TestE1SameTexts(t *testing.T) {
	all := someAsked()
	var want []string
	for _, a := range all {
		want = append(want, a.own().says())
	}
	told := make([][]string, 12)
	ends(t, func() {
		ready := make(chan int)
		for turn := range told {
			go func() {
				told[turn] = make([]string, len(all))
				for i := range all {
					at := (i + turn) % len(all)
					told[turn][at] = all[at].says()
				}
				ready <- turn
			}()
		}
		for range told {
			<-ready
		}
	})
	for turn, got := range told {
		if !slices.Equal(got, want) {
			t.Errorf("from %d on comes something else", turn)
		}
	}
}

// TestE1TextOfItsOwn: what is told hangs on a text's bytes alone, not on where they stand.
func TestE1TextOfItsOwn(t *testing.T) {
	for text, want := range byHand() {
		within := "△\n" + text + "?"
		got, fault := house.Make(within[4 : 4+len(text)])
		isThat(t, text, got, fault, want, api.Fault{})
		got, fault = house.Make(strings.Clone(text))
		isThat(t, text, got, fault, want, api.Fault{})
	}
}
