package knit_test

import (
	"fmt"
	"slices"
	"testing"

	"tapestry/api"
	"tapestry/knit"
)

// lists are all lists of numbers of what has been knitted.
func lists(k api.Knitted) [][]int {
	out := [][]int{k.Loose}
	for _, loop := range k.Loops {
		out = append(out, loop.Through)
	}
	return slices.Concat(out, k.Front, k.Back)
}

// spoil changes a list, and the spare room behind it.
func spoil(l []int) {
	l = l[:cap(l)]
	for i := range l {
		l[i] = -7
	}
}

// spoilAll changes all that an answer has, and its spare room.
func spoilAll(k *api.Knitted) {
	for _, l := range lists(*k) {
		spoil(l)
	}
	for _, bed := range [][][]int{k.Front, k.Back} {
		bed = bed[:cap(bed)]
		for i := range bed {
			bed[i] = []int{-8}
		}
	}
	loops := k.Loops[:cap(k.Loops)]
	for i := range loops {
		loops[i] = api.Loop{Carrier: -9, Through: []int{-9}}
	}
	k.Rack = -10
}

// story are stitches that a machine of four needles does, of each kind.
func story() []api.Stitch { return done(4, strewn(4, 200, strew(11))) }

// TestE2OnlyReads: neither stitches nor the spare room behind them are changed, nor is that room looked at, nor is anything of them kept.
func TestE2OnlyReads(t *testing.T) {
	for _, l := range [][]api.Stitch{story(), nil, strewn(4, 50, strew(2))} {
		want, fault := knit.Run(4, l)
		for _, behind := range []api.Stitch{{Do: 9}, tucks(0, 0, 0), racks(3)} {
			whole := slices.Concat(l, slices.Repeat([]api.Stitch{behind}, 9))
			kept := slices.Clone(whole)
			k, f := knit.Run(4, whole[:len(l)])
			if !slices.Equal(whole, kept) {
				t.Errorf("%v was changed", kept)
			}
			clear(whole)
			if !same(k, want) || f != fault {
				t.Errorf("%v %v comes, not %v %v", k, f, want, fault)
			}
		}
	}
}

// TestE2StateIsNew: what State answers, its spare room too, has nothing to do with the machine, nor with what it answers at another time.
func TestE2StateIsNew(t *testing.T) {
	m := machine(t, 4)
	paper := machineByWords{needles: 4}
	var states []api.Knitted
	var texts []string
	for _, x := range story() {
		does(t, m, x)
		paper.do(x)
		mine := m.State()
		spoilAll(&mine)
		k := m.State()
		if want := paper.state(); !same(k, want) {
			t.Fatalf("behind %+v: %v, not %v", x, k, want)
		}
		states, texts = append(states, k), append(texts, fmt.Sprint(k))
	}
	for i, k := range states {
		if got := fmt.Sprint(k); got != texts[i] {
			t.Errorf("%s has become %s", texts[i], got)
		}
	}
}

// TestE2RunIsNew: an answer has nothing to do with another one.
func TestE2RunIsNew(t *testing.T) {
	want, _ := ranByWords(4, story())
	first, _ := knit.Run(4, story())
	second, _ := knit.Run(4, story())
	spoilAll(&second)
	third, _ := knit.Run(4, story())
	if !same(first, want) || !same(third, want) {
		t.Errorf("%v and %v, not %v", first, third, want)
	}
}

// TestE2ListsShareNone: no two lists of one answer share memory: each is changed, with its spare room, and the others stay.
func TestE2ListsShareNone(t *testing.T) {
	l := append(story(), tucks(0, 0, 0), tucks(0, 0, 1), tucks(1, 3, 0), tucks(1, 3, 2))
	l = done(4, l)
	for _, count := range []int{len(l), len(l) - 1, len(l) / 2, 10} {
		k, fault := knit.Run(4, l[:count])
		if fault.Err != api.OK {
			t.Fatal(fault)
		}
		all := lists(k)
		for i, list := range all {
			kept := slices.Clone(all)
			for j := range kept {
				kept[j] = slices.Clone(all[j])
			}
			spoil(list)
			for j := range all {
				if j != i && !slices.Equal(all[j], kept[j]) {
					t.Fatalf("list %d shares memory with list %d", i, j)
				}
			}
			copy(list, kept[i])
		}
		kept := fmt.Sprint(k.Back)
		front := k.Front[:cap(k.Front)]
		for i := range front {
			front[i] = []int{-1}
		}
		if got := fmt.Sprint(k.Back); got != kept {
			t.Errorf("the beds share memory: %s, not %s", got, kept)
		}
	}
}

// TestE1SeveralMachines: machines by turns do not know of one another.
func TestE1SeveralMachines(t *testing.T) {
	var pairs []*pair
	var stitches [][]api.Stitch
	for i, needles := range []int{4, 4, 1, 128, 4} {
		pairs = append(pairs, newPair(t, needles))
		stitches = append(stitches, strewn(needles, 200, strew(i)))
	}
	for i := range 200 {
		for j, p := range pairs {
			if how := p.step(stitches[j][i]); how != "" {
				t.Fatalf("machine %d: %s", j, how)
			}
		}
	}
	for j, p := range pairs {
		if got, want := p.m.State(), p.paper.state(); !same(got, want) {
			t.Errorf("machine %d: %v, not %v", j, got, want)
		}
	}
}

// TestE1SideBySide: machines of several goroutines tell what they tell alone.
func TestE1SideBySide(t *testing.T) {
	got := make([]api.Knitted, 8)
	ready := make(chan int)
	for i := range got {
		go func() {
			got[i], _ = knit.Run(4, done(4, strewn(4, 300, strew(i))))
			ready <- i
		}()
	}
	for range got {
		<-ready
	}
	for i, k := range got {
		if want, _ := ranByWords(4, done(4, strewn(4, 300, strew(i)))); !same(k, want) {
			t.Errorf("%d: %v comes, not %v", i, k, want)
		}
	}
}

// TestE1Asked: State changes nothing, however often it is asked.
func TestE1Asked(t *testing.T) {
	m, other := machine(t, 4), machine(t, 4)
	for _, x := range story() {
		does(t, other, x)
		for range 3 {
			m.State()
		}
		does(t, m, x)
	}
	if k, want := m.State(), other.State(); !same(k, want) {
		t.Errorf("%v comes, not %v", k, want)
	}
}
