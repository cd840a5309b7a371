package shape_test

import (
	"slices"
	"testing"

	"tapestry/api"
	"tapestry/shape"
)

// isRoundedDown tells whether a number is over / under, rounded down, without dividing: under is more than 0.
func isRoundedDown(n, over, under int) bool { return n*under <= over && over < (n+1)*under }

// marksByWords are where V1's words say that marks stand: each is sought from where the one ahead of it stands on.
func marksByWords(total, marks int) []int {
	var out []int
	at := 0
	for i := 0; i < marks; i++ {
		for !isRoundedDown(at, (2*i+1)*total, 2*marks) {
			at++
		}
		out = append(out, at)
	}
	return out
}

// rowsByWords is how wide V2's words say that each row is, one behind the other.
func rowsByWords(from, to, rows int) []int {
	d := max(from, to) - min(from, to)
	each := 0
	for (each+1)*rows <= d {
		each++
	}
	marks := marksByWords(rows, d-each*rows)
	var out []int
	wide := from
	for place := 0; place < rows; place++ {
		nearer := each
		if slices.Contains(marks, place) {
			nearer++
		}
		if from < to {
			wide += nearer
		} else {
			wide -= nearer
		}
		out = append(out, wide)
	}
	return out
}

// spread, count and rows are what is answered where nothing is wrong.
func spread(t *testing.T, total, marks int) []int {
	t.Helper()
	l, err := shape.Spread(total, marks)
	if err != api.OK {
		t.Fatalf("%d marks among %d places: %d", marks, total, err)
	}
	return l
}

func count(t *testing.T, total, marks, place int) int {
	t.Helper()
	n, err := shape.Count(total, marks, place)
	if err != api.OK {
		t.Fatalf("of %d marks among %d places those below %d: %d", marks, total, place, err)
	}
	return n
}

func rows(t *testing.T, from, to, n int) []int {
	t.Helper()
	l, err := shape.Rows(from, to, n)
	if err != api.OK {
		t.Fatalf("from %d to %d in %d rows: %d", from, to, n, err)
	}
	return l
}

// unlike is the first place where two lists are unlike: where one of them is the other's beginning, the place behind its end.
func unlike(a, b []int) int {
	for i := range min(len(a), len(b)) {
		if a[i] != b[i] {
			return i
		}
	}
	return min(len(a), len(b))
}

// same: two lists are the same; if not, only a few of their numbers are told, as they may be long.
func same(t *testing.T, got, want []int, what string, about ...int) {
	t.Helper()
	if slices.Equal(got, want) {
		return
	}
	at := unlike(got, want)
	t.Errorf("%s %v: %d of them, not %d; from %d on %v, not %v", what, about, len(got), len(want), at, got[at:min(at+9, len(got))], want[at:min(at+9, len(want))])
}

// strewn is a number from 0 on below limit, another one for each seed.
func strewn(limit, seed int) int {
	x := uint64(seed)*0x9E3779B97F4A7C15 + 0xD1B54A32D192ED03
	x = (x ^ x>>30) * 0xBF58476D1CE4E5B9
	x = (x ^ x>>27) * 0x94D049BB133111EB
	return int((x ^ x>>31) % uint64(limit))
}

// strewnPlaces are how many places there are, and how many marks: few, many and up to all of them.
func strewnPlaces(seed int) (total, marks int) {
	total = 1 + strewn(api.MaxSpread, 3*seed)
	limit := total + 1
	if seed%3 == 0 {
		limit = min(limit, 300)
	}
	marks = strewn(limit, 3*seed+1)
	if seed%3 == 1 {
		marks = total - marks%min(total, 300)
	}
	return total, marks
}
