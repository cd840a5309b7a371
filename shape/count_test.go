package shape_test

import (
	"testing"

	"tapestry/api"
	"tapestry/shape"
)

// countsAsSpread: at every place, from 0 to total, Count tells how many of Spread's marks stand below it.
func countsAsSpread(t *testing.T, total, marks int) {
	t.Helper()
	l := spread(t, total, marks)
	below := 0
	for place := 0; place <= total; place++ {
		for below < len(l) && l[below] < place {
			below++
		}
		if n, err := shape.Count(total, marks, place); n != below || err != api.OK {
			t.Fatalf("of %d marks among %d places %d are below %d, %d, not %d", marks, total, n, place, err, below)
		}
	}
}

// TestV1CountKnown: what was counted by hand.
func TestV1CountKnown(t *testing.T) {
	for _, x := range []struct {
		total, marks int
		want         []int // at place 0, 1, 2 and so on
	}{
		{4, 2, []int{0, 0, 1, 1, 2}},
		{1, 0, []int{0, 0}},
		{1, 1, []int{0, 1}},
		{2, 1, []int{0, 0, 1}},
		{2, 2, []int{0, 1, 2}},
		{3, 1, []int{0, 0, 1, 1}},
		{3, 2, []int{0, 1, 1, 2}},
		{5, 0, []int{0, 0, 0, 0, 0, 0}},
		{5, 2, []int{0, 0, 1, 1, 2, 2}},
		{5, 4, []int{0, 1, 2, 2, 3, 4}},
		{10, 3, []int{0, 0, 1, 1, 1, 1, 2, 2, 2, 3, 3}},
	} {
		var got []int
		for place := range x.total + 1 {
			got = append(got, count(t, x.total, x.marks, place))
		}
		same(t, got, x.want, "Count", x.total, x.marks)
	}
	for _, x := range [][4]int{
		{api.MaxSpread, 1, 524288, 0}, {api.MaxSpread, 1, 524289, 1},
		{api.MaxSpread, 5, 104857, 0}, {api.MaxSpread, 5, 104858, 1}, {api.MaxSpread, 5, 943718, 4}, {api.MaxSpread, 5, 943719, 5},
		{api.MaxSpread, 1 << 19, 1, 0}, {api.MaxSpread, 1 << 19, 2, 1}, {api.MaxSpread, 1 << 19, 1<<20 - 1, 1<<19 - 1},
	} {
		if n := count(t, x[0], x[1], x[2]); n != x[3] {
			t.Errorf("of %d marks among %d places %d are below %d, not %d", x[1], x[0], n, x[2], x[3])
		}
	}
}

// TestV1CountSmall: every place of all marks among few places.
func TestV1CountSmall(t *testing.T) {
	for total := 1; total <= 100; total++ {
		for marks := 0; marks <= total; marks++ {
			countsAsSpread(t, total, marks)
		}
	}
}

// TestV1CountGreat: every place among many. Whoever looked at each mark, for each place anew, would not come to an end here.
func TestV1CountGreat(t *testing.T) {
	for _, total := range []int{api.MaxSpread, 720720, 999983} {
		for _, marks := range greatMarks(total) {
			countsAsSpread(t, total, marks)
		}
	}
	for seed := range 40 {
		total, marks := strewnPlaces(seed)
		countsAsSpread(t, total, marks)
	}
}

// TestV1CountAtTheEdges: below place 0 there are none, below total all of them.
func TestV1CountAtTheEdges(t *testing.T) {
	for seed := range 3000 {
		total, marks := strewnPlaces(seed)
		for _, m := range []int{0, 1, marks, total} {
			if none, all := count(t, total, m, 0), count(t, total, m, total); none != 0 || all != m {
				t.Errorf("of %d marks among %d places %d are below 0, %d below %d", m, total, none, all, total)
			}
		}
		if n := count(t, total, total, marks); n != marks {
			t.Errorf("of as many marks as there are places, %d, %d are below %d", total, n, marks)
		}
	}
	for _, m := range []int{0, 1, 1 << 19, api.MaxSpread} {
		if none, all := count(t, api.MaxSpread, m, 0), count(t, api.MaxSpread, m, api.MaxSpread); none != 0 || all != m {
			t.Errorf("of %d marks among MaxSpread places %d are below 0, %d below all", m, none, all)
		}
	}
}
