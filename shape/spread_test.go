package shape_test

import (
	"testing"

	"tapestry/api"
)

// asSpread: Spread tells what V1's words do.
func asSpread(t *testing.T, total, marks int) {
	t.Helper()
	same(t, spread(t, total, marks), marksByWords(total, marks), "Spread", total, marks)
}

// TestV1SpreadKnown: marks that were worked out by hand; the document's own are two among four places.
func TestV1SpreadKnown(t *testing.T) {
	for _, x := range []struct {
		total, marks int
		want         []int
	}{
		{4, 2, []int{1, 3}},
		{1, 0, nil},
		{1, 1, []int{0}},
		{2, 1, []int{1}},
		{2, 2, []int{0, 1}},
		{3, 1, []int{1}},
		{3, 2, []int{0, 2}},
		{5, 0, nil},
		{5, 2, []int{1, 3}},
		{5, 3, []int{0, 2, 4}},
		{5, 4, []int{0, 1, 3, 4}},
		{6, 2, []int{1, 4}},
		{6, 3, []int{1, 3, 5}},
		{6, 4, []int{0, 2, 3, 5}},
		{7, 1, []int{3}},
		{8, 2, []int{2, 6}},
		{8, 4, []int{1, 3, 5, 7}},
		{8, 5, []int{0, 2, 4, 5, 7}},
		{9, 3, []int{1, 4, 7}},
		{10, 3, []int{1, 5, 8}},
		{100, 7, []int{7, 21, 35, 50, 64, 78, 92}},
		{api.MaxSpread, 1, []int{524288}},
		{api.MaxSpread, 2, []int{262144, 786432}},
		{api.MaxSpread, 5, []int{104857, 314572, 524288, 734003, 943718}},
		{api.MaxSpread - 1, 1, []int{524287}},
	} {
		same(t, spread(t, x.total, x.marks), x.want, "Spread", x.total, x.marks)
	}
}

// TestV1SpreadSmallByTheWords: all marks among few places, those that divide one another and those that don't.
func TestV1SpreadSmallByTheWords(t *testing.T) {
	for total := 1; total <= 130; total++ {
		for marks := 0; marks <= total; marks++ {
			asSpread(t, total, marks)
		}
	}
}

// greatMarks are how many marks there may be among many places: few, about half of them, and nearly all; powers of two, primes, and such numbers that divide total.
func greatMarks(total int) []int {
	return []int{0, 1, 2, 3, 5, 7, 11, 1 << 10, 4097, 65537, total / 3, total/2 - 1, total / 2, total/2 + 1, total - 65537, total - 2, total - 1, total}
}

// TestV1SpreadGreatByTheWords: places up to MaxSpread, of which one is a power of two, one has many divisors, and one is a prime.
func TestV1SpreadGreatByTheWords(t *testing.T) {
	for _, total := range []int{api.MaxSpread, api.MaxSpread - 1, 720720, 999983} {
		for _, marks := range greatMarks(total) {
			asSpread(t, total, marks)
		}
	}
	for seed := range 60 {
		total, marks := strewnPlaces(seed)
		asSpread(t, total, marks)
	}
}

// TestV1SpreadAtTheEdges: no marks, one mark in the midst, and as many marks as places, for each power of two and its neighbours.
func TestV1SpreadAtTheEdges(t *testing.T) {
	for n := 1; n <= api.MaxSpread; n *= 2 {
		for _, total := range []int{n - 1, n, n + 1} {
			if total < 1 || total > api.MaxSpread {
				continue
			}
			same(t, spread(t, total, 0), nil, "Spread", total, 0)
			same(t, spread(t, total, 1), []int{total / 2}, "Spread", total, 1)
			all := spread(t, total, total)
			for i, at := range all {
				if at != i {
					t.Fatalf("of %d marks among as many places mark %d stands at %d", total, i, at)
				}
			}
			if len(all) != total {
				t.Errorf("%d marks among as many places: %d of them", total, len(all))
			}
		}
	}
}

// TestV1SpreadEvenly: what the words come to: each mark has a place of its own, below total, and of two gaps none is greater by more than one.
func TestV1SpreadEvenly(t *testing.T) {
	for seed := range 200 {
		total, marks := strewnPlaces(1000 + seed)
		if seed%2 == 0 {
			total = 1 + total%500
			marks %= total + 1
		}
		last := -1
		for i, at := range spread(t, total, marks) {
			gap := at - last
			if at <= last || at >= total || i > 0 && (gap < total/marks || gap > total/marks+1) {
				t.Fatalf("%d marks among %d places: mark %d at %d, behind %d", marks, total, i, at, last)
			}
			last = at
		}
	}
}
