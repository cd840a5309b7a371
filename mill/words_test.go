package mill_test

import (
	"cmp"
	"math"
	"slices"
	"testing"
	"time"

	"tapestry/api"
	"tapestry/cards"
	"tapestry/draft"
	"tapestry/mill"
)

// job is a short name for these tests.
func job(loom, from int) api.Job { return api.Job{Loom: loom, From: from} }

// planByWords is what M1's words say: of each loom its jobs are kept, and it is free when it has done all of them.
func planByWords(picks []int, looms int) (out []api.Job, last int) {
	jobsOf := make([][]int, looms)
	for _, long := range picks {
		free := make([]api.Job, looms)
		for loom, its := range jobsOf {
			free[loom] = job(loom, together(its))
		}
		slices.SortFunc(free, func(one, other api.Job) int {
			return cmp.Or(cmp.Compare(one.From, other.From), cmp.Compare(one.Loom, other.Loom))
		})
		out = append(out, free[0])
		jobsOf[free[0].Loom] = append(jobsOf[free[0].Loom], long)
	}
	for _, its := range jobsOf {
		last = max(last, together(its))
	}
	return out, last
}

func together(numbers []int) (out int) {
	for _, n := range numbers {
		out += n
	}
	return out
}

// planByClock lets the time go by, for short jobs: at each time the idle looms, the one with the least number first, begin what comes next.
func planByClock(picks []int, looms int) (out []api.Job, last int) {
	left := make([]int, looms)
	for now := 0; ; now++ {
		idle := slices.Index(left, 0)
		for ; idle >= 0 && len(out) < len(picks); idle = slices.Index(left, 0) {
			left[idle] = picks[len(out)]
			out = append(out, job(idle, now))
		}
		if len(out) == len(picks) && slices.Max(left) == 0 {
			return out, now
		}
		for loom := range left {
			left[loom] = max(left[loom]-1, 0)
		}
	}
}

// isPlanned holds what Plan tells against what is wanted; of long lists one job alone is told.
func isPlanned(t *testing.T, picks []int, looms int, want []api.Job, wantLast int) {
	t.Helper()
	got, last, err := mill.Plan(picks, looms)
	if err != api.OK || len(got) != len(want) {
		t.Errorf("%d looms: %d jobs %v.. are planned as %d, %d", looms, len(picks), picks[:min(8, len(picks))], len(got), err)
		return
	}
	for i := range got {
		if got[i] != want[i] {
			t.Errorf("%d looms: of %d jobs %v.. the one at %d is %v, not %v", looms, len(picks), picks[:min(8, len(picks))], i, got[i], want[i])
			break
		}
	}
	if last != wantLast {
		t.Errorf("%d looms: %d jobs %v.. are done at %d, not %d", looms, len(picks), picks[:min(8, len(picks))], last, wantLast)
	}
}

// truthOf are truths whose places a word tells.
func truthOf(wide, high int, word func(row, place int) bool) api.Truth {
	m := api.Truth{Wide: wide, High: high, Bits: make([]bool, wide*high)}
	for i := range m.Bits {
		m.Bits[i] = word(i/wide, i%wide)
	}
	return m
}

// of are truths written down, a text a row.
func of(rows ...string) api.Truth {
	return truthOf(len(rows[0]), len(rows), func(row, place int) bool { return rows[row][place] == '1' })
}

func plainWeave(wide, high int) api.Truth {
	return truthOf(wide, high, func(row, place int) bool { return (row+place)%2 == 0 })
}

// strewn is a number from 0 on below limit, another one for each seed.
func strewn(limit, seed int) int {
	x := uint64(seed)*0x9E3779B97F4A7C15 + 0xD1B54A32D192ED03
	x = (x ^ x>>30) * 0xBF58476D1CE4E5B9
	x = (x ^ x>>27) * 0x94D049BB133111EB
	return int((x ^ x>>31) % uint64(limit))
}

// strewnCloth is truths without order.
func strewnCloth(wide, high, seed int) api.Truth {
	return truthOf(wide, high, func(row, place int) bool { return strewn(2, 10000*seed+64*row+place) == 0 })
}

// strewnCloths are so many cloths of unlike sizes, up to so wide and so high.
func strewnCloths(many, side, seed int) []api.Truth {
	out := make([]api.Truth, many)
	for i := range out {
		n := 1000*seed + 3*i
		out[i] = strewnCloth(1+strewn(side, n), 1+strewn(side, n+1), n+2)
	}
	return out
}

// cutCloth has not as many bits as its sides say; others are too wide, too high, or have no bits.
func cutCloth() api.Truth { return api.Truth{Wide: 2, High: 2, Bits: []bool{true, false, true}} }

func wideCloth() api.Truth {
	return api.Truth{Wide: api.MaxTruth + 1, High: 1, Bits: make([]bool, api.MaxTruth+1)}
}

func highCloth() api.Truth {
	return api.Truth{Wide: 1, High: api.MaxTruth + 1, Bits: make([]bool, api.MaxTruth+1)}
}

func noCloth() api.Truth { return api.Truth{} }

// wrongCloths are cloths of which Fewest tells an error, with it.
func wrongCloths() []struct {
	m   api.Truth
	err api.Errno
} {
	return []struct {
		m   api.Truth
		err api.Errno
	}{
		{cutCloth(), api.ErrFit},
		{wideCloth(), api.ErrRange},
		{noCloth(), api.ErrMany},
		{highCloth(), api.ErrRange},
		{api.Truth{Wide: 1, High: 1}, api.ErrFit},
		{api.Truth{Wide: 1, High: 1, Bits: make([]bool, 2)}, api.ErrFit},
		{api.Truth{Wide: 64}, api.ErrMany},
		{api.Truth{High: 64}, api.ErrMany},
		{api.Truth{Bits: []bool{true}}, api.ErrFit},
		{api.Truth{Wide: -1, High: -1, Bits: []bool{true}}, api.ErrRange},
		{api.Truth{Wide: math.MinInt, High: math.MaxInt}, api.ErrRange},
	}
}

// weaveByWords is what M2's words say, one cloth behind the other.
func weaveByWords(l []api.Truth) (out []string, bytes int, err api.Errno) {
	for _, m := range l {
		if _, err := draft.Fewest(m); err != api.OK {
			return nil, 0, err
		}
		deck, err := cards.Pack(m)
		if err != api.OK {
			return nil, 0, err
		}
		out = append(out, deck)
		bytes += len(deck)
	}
	return out, bytes, api.OK
}

// isWoven holds what Weave tells against what is wanted.
func isWoven(t *testing.T, l []api.Truth, looms int, want []string, wantBytes int) {
	t.Helper()
	got, bytes, err := mill.Weave(l, looms)
	if err != api.OK || len(got) != len(want) || bytes != wantBytes {
		t.Errorf("%d looms, %d cloths: %d decks of %d bytes, %d, not %d of %d", looms, len(l), len(got), bytes, err, len(want), wantBytes)
		return
	}
	for i := range got {
		if got[i] != want[i] {
			t.Errorf("%d looms, %d cloths: the deck at %d is %q, not %q", looms, len(l), i, got[i], want[i])
			return
		}
	}
}

// ends lets a test's call fail, rather than go on for ever.
func ends(t *testing.T, call func()) {
	t.Helper()
	done := make(chan bool)
	go func() {
		defer close(done)
		call()
	}()
	select {
	case <-done:
	case <-time.After(2 * time.Minute):
		t.Fatal("it does not end")
	}
}
