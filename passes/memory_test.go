package passes_test

import (
	"slices"
	"testing"

	"tapestry/api"
	"tapestry/passes"
)

// spoil changes a list, and the spare room behind it.
func spoil[T any](l []T, with T) {
	l = l[:cap(l)]
	for i := range l {
		l[i] = with
	}
}

// roomy is a list with spare room, in which something stands.
func roomy[T any](l []T, behind T) []T { return slices.Concat(l, slices.Repeat([]T{behind}, 9)) }

// asked is what can be handed in.
type asked struct {
	from, to []int
	slack    int
}

// someAsked: one loop and five, some that need no passes, and wrong ones.
func someAsked() []asked {
	return []asked{
		{[]int{0}, []int{5}, 1}, {[]int{3}, []int{3}, 2}, {[]int{0, 3}, []int{1, 2}, 3}, {[]int{2, 4, 6, 8, 10}, []int{2, 2, 2, 2, 2}, 3},
		{[]int{0, 1, 2, 3, 4}, []int{1, 3, 3, 3, 3}, 2}, {nil, nil, 1}, {[]int{4, 4}, []int{5, 5}, 2}, {[]int{0}, []int{1}, 0}, {[]int{0, 1}, []int{1}, 1},
	}
}

// TestE2OnlyReads: what is handed in is not changed, nor the spare room behind it, nor is that room looked at, nor anything kept.
func TestE2OnlyReads(t *testing.T) {
	for _, x := range someAsked() {
		wantErr := wrongByWords(x.from, x.to, x.slack)
		var want []api.Pass
		if wantErr == api.OK {
			want = plansByWords(x.from, x.to, x.slack)[keyOf(x.to)]
		}
		for _, behind := range []int{0, 1, 5, -1, 12} {
			from, to, l := roomy(x.from, behind), roomy(x.to, behind+1), roomy(want, api.Pass{By: behind, Which: 1})
			err := passes.Wrong(from[:len(x.from)], to[:len(x.to)], x.slack)
			plan, planErr := passes.Plan(from[:len(x.from)], to[:len(x.to)], x.slack)
			is, checkErr := passes.Check(from[:len(x.from)], to[:len(x.to)], x.slack, l[:len(want)])
			if !slices.Equal(from, roomy(x.from, behind)) || !slices.Equal(to, roomy(x.to, behind+1)) || !slices.Equal(l, roomy(want, api.Pass{By: behind, Which: 1})) {
				t.Errorf("%v was changed: %v %v %v", x, from, to, l)
			}
			spoil(from, 7)
			spoil(to, 8)
			spoil(l, api.Pass{By: 9, Which: 9})
			if err != wantErr || planErr != wantErr || checkErr != wantErr || is != (wantErr == api.OK) || !slices.Equal(plan, want) {
				t.Errorf("%v: %d, %v %d, %v %d, not %v %d", x, err, plan, planErr, is, checkErr, want, wantErr)
			}
		}
	}
}

// TestE2OneList: from and to, and what is planned, may be one list, or share it.
func TestE2OneList(t *testing.T) {
	shared := []int{0, 1, 2, 3, 4, 5, 6}
	plans(t, shared[:5], shared[:5], 1)
	plans(t, shared[:5], shared[2:], 1, api.Pass{By: 2, Which: 31})
	plans(t, shared[1:6], shared[:5], 1, api.Pass{By: -1, Which: 31})
	if !slices.Equal(shared, []int{0, 1, 2, 3, 4, 5, 6}) {
		t.Errorf("it has become %v", shared)
	}
}

// TestE2AnswersAreNew: a plan, its spare room too, has nothing to do with another one.
func TestE2AnswersAreNew(t *testing.T) {
	for _, x := range someAsked() {
		first, err := passes.Plan(x.from, x.to, x.slack)
		kept := slices.Clone(first)
		second, _ := passes.Plan(x.from, x.to, x.slack)
		spoil(second, api.Pass{By: -9, Which: -9})
		third, again := passes.Plan(x.from, x.to, x.slack)
		if !slices.Equal(first, kept) || !slices.Equal(third, kept) || again != err {
			t.Errorf("%v: %v and %v %d, not %v %d", x, first, third, again, kept, err)
		}
	}
}

// TestE1SideBySide: several goroutines are told what they are told alone, of the same loops and of others.
func TestE1SideBySide(t *testing.T) {
	all := someAsked()
	told := make([][][]api.Pass, 8)
	ready := make(chan int)
	for i := range told {
		go func() {
			for j := range all {
				x := all[(i+j)%len(all)]
				l, _ := passes.Plan(x.from, x.to, x.slack)
				told[i] = append(told[i], l)
			}
			ready <- i
		}()
	}
	for range told {
		<-ready
	}
	for i := range told {
		for j, l := range told[i] {
			x := all[(i+j)%len(all)]
			if want, _ := passes.Plan(x.from, x.to, x.slack); !slices.Equal(l, want) {
				t.Errorf("%v: %v, alone %v", x, l, want)
			}
		}
	}
}
