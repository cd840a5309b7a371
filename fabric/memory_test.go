package fabric_test

import (
	"fmt"
	"slices"
	"testing"

	"tapestry/api"
	"tapestry/fabric"
)

// lists are all lists of numbers of what has been knitted.
func lists(k api.Knitted) [][]int {
	out := [][]int{k.Loose}
	for _, loop := range k.Loops {
		out = append(out, loop.Through)
	}
	return slices.Concat(out, k.Front, k.Back)
}

// spoil changes a list, and the spare room behind it.
func spoil[T any](l []T, with T) {
	l = l[:cap(l)]
	for i := range l {
		l[i] = with
	}
}

// spoilAll changes all that an answer has, and its spare room.
func spoilAll(k api.Knitted) {
	for _, l := range lists(k) {
		spoil(l, -7)
	}
	spoil(k.Front, []int{-8})
	spoil(k.Back, []int{-8})
	spoil(k.Loops, api.Loop{Carrier: -9, Through: []int{-9}})
}

// roomy is a list with spare room, in which something stands.
func roomy(l []api.Stitch, behind api.Stitch) []api.Stitch {
	return slices.Concat(l, slices.Repeat([]api.Stitch{behind}, 9))
}

// someLists are stitches of each kind, none, some that a machine refuses, and some that are tidy.
func someLists(t *testing.T) [][]api.Stitch {
	t.Helper()
	return [][]api.Stitch{story(t, 4, 11), nil, strewn(4, 50, strew(2)), {racks(1)}, {misses(0, 0, 0)}, {tucks(0, 0, 1), knits(0, 0, 0)}}
}

// TestE2OnlyReads: neither stitches nor the spare room behind them are changed, nor is that room looked at, nor is anything of them kept.
func TestE2OnlyReads(t *testing.T) {
	for _, l := range someLists(t) {
		wantCloth, wantFault := clothByWords(4, l)
		wantTidy := tidyByWords(l)
		for _, behind := range []api.Stitch{{Do: 9}, tucks(0, 0, 0), racks(3), misses(0, 0, 0)} {
			whole := roomy(l, behind)
			k, fault := fabric.Cloth(4, whole[:len(l)])
			tidy := fabric.Tidy(whole[:len(l)])
			if !slices.Equal(whole, roomy(l, behind)) {
				t.Errorf("%v was changed", l)
			}
			spoil(whole, stitch(2, 1, 1, 1, 1))
			if !same(k, wantCloth) || fault != wantFault {
				t.Errorf("%v %v comes, not %v %v", k, fault, wantCloth, wantFault)
			}
			if !slices.Equal(tidy, wantTidy) {
				t.Errorf("%v is left, not %v", tidy, wantTidy)
			}
		}
	}
}

// TestE2AnswersAreNew: an answer, its spare room too, has nothing to do with what was handed in, nor with another answer.
func TestE2AnswersAreNew(t *testing.T) {
	for _, l := range someLists(t) {
		kept := slices.Clone(l)
		wantCloth, _ := clothByWords(4, l)
		first, _ := fabric.Cloth(4, l)
		second, _ := fabric.Cloth(4, l)
		spoilAll(second)
		third, _ := fabric.Cloth(4, l)
		if !same(first, wantCloth) || !same(third, wantCloth) {
			t.Errorf("%v and %v, not %v", first, third, wantCloth)
		}
		tidy := fabric.Tidy(l)
		spoil(fabric.Tidy(l), api.Stitch{Do: -1})
		if again := fabric.Tidy(l); !slices.Equal(tidy, tidyByWords(l)) || !slices.Equal(again, tidy) {
			t.Errorf("%v and %v are left", tidy, again)
		}
		if !slices.Equal(l, kept) {
			t.Errorf("%v has become %v", kept, l)
		}
	}
}

// TestE2ListsShareNone: no two lists of one answer share memory: each is changed, with its spare room, and the others stay.
func TestE2ListsShareNone(t *testing.T) {
	l := story(t, 4, 5)
	l = done(t, 4, append(l, tucks(0, 0, 4), tucks(0, 0, 1), tucks(1, 3, 7), tucks(1, 3, 2), drops(1, 3)))
	for _, count := range []int{len(l), len(l) - 1, len(l) / 2, 10} {
		k, fault := fabric.Cloth(4, l[:count])
		if fault.Err != api.OK {
			t.Fatal(fault)
		}
		all := lists(k)
		for i, list := range all {
			kept := make([][]int, len(all))
			for j := range kept {
				kept[j] = slices.Clone(all[j])
			}
			spoil(list, -7)
			for j := range all {
				if j != i && !slices.Equal(all[j], kept[j]) {
					t.Fatalf("list %d shares memory with list %d", i, j)
				}
			}
			copy(list, kept[i])
		}
		kept := fmt.Sprint(k.Back)
		spoil(k.Front, []int{-1})
		if got := fmt.Sprint(k.Back); got != kept {
			t.Errorf("the beds share memory: %s, not %s", got, kept)
		}
	}
}

// TestE1SideBySide: several goroutines are told what they are told alone, of the same stitches and of others.
func TestE1SideBySide(t *testing.T) {
	l := story(t, 4, 1)
	others := make([][]api.Stitch, 8)
	for i := range others {
		others[i] = story(t, 4, 20+i)
	}
	clothes, tidies := make([][2]api.Knitted, 8), make([][]api.Stitch, 8)
	ready := make(chan int)
	for i := range clothes {
		go func() {
			clothes[i][0], _ = fabric.Cloth(4, l)
			clothes[i][1], _ = fabric.Cloth(4, others[i])
			tidies[i] = fabric.Tidy(l)
			ready <- i
		}()
	}
	for range clothes {
		<-ready
	}
	for i, k := range clothes {
		common, _ := clothByWords(4, l)
		own, _ := clothByWords(4, others[i])
		if !same(k[0], common) || !same(k[1], own) || !slices.Equal(tidies[i], tidyByWords(l)) {
			t.Errorf("%d: %v and %v are told otherwise than alone", i, k, tidies[i])
		}
	}
}
