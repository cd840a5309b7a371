package draft_test

import (
	"slices"
	"testing"

	"tapestry/api"
	"tapestry/draft"
	"tapestry/truth"
)

func TestD2DrawdownKnown(t *testing.T) {
	for _, x := range []struct {
		d    api.Draft
		want api.Truth
	}{
		{plainDraft(), of("10101", "01010", "01010", "10101")},
		{api.Draft{Threading: []int{0, 1}, Tie: of("10", "01"), Treadling: []int{0, 1}}, of("10", "01")},
		{api.Draft{Threading: []int{0, 1, 2, 3}, Tie: of("1100", "0110", "0011", "1001"), Treadling: []int{0, 1, 2, 3}}, of("1100", "0110", "0011", "1001")},
		{api.Draft{Threading: []int{3, 2, 1, 0}, Tie: of("1100", "0110", "0011", "1001"), Treadling: []int{3, 3, 0}}, of("1001", "1001", "0011")},
		{api.Draft{Threading: []int{0}, Tie: of("1"), Treadling: []int{0}}, of("1")},
		{api.Draft{Threading: []int{0}, Tie: of("0"), Treadling: []int{0}}, of("0")},
		{api.Draft{Threading: []int{0, 1, 2, 1}, Tie: of("110", "001"), Treadling: []int{1}}, of("0010")},
		{api.Draft{Threading: []int{2}, Tie: of("110", "001"), Treadling: []int{0, 1, 1, 0}}, of("0", "1", "1", "0")},
		{api.Draft{Threading: []int{1, 1, 1}, Tie: of("01", "10", "11"), Treadling: []int{0, 1}}, of("111", "000")},
		{api.Draft{Threading: []int{0, 0, 0}, Tie: of("01", "10", "11"), Treadling: []int{2, 0, 1}}, of("111", "000", "111")},
	} {
		if got := drawdown(t, x.d); !same(got, x.want) {
			t.Errorf("the drawdown of %v is %v, not %v", x.d, got, x.want)
		}
	}
}

func TestD2DrawdownByTheWords(t *testing.T) {
	for _, d := range slices.Concat(smallDrafts(), greatDrafts()) {
		if got := drawdown(t, d); !same(got, drawdownByWords(t, d)) {
			t.Fatalf("the drawdown of %v is %v", d, got)
		}
	}
}

// TestD2OneOfTie: of one place of Tie alone that holds come all ends of its shaft, above all picks of its treadle.
func TestD2OneOfTie(t *testing.T) {
	straight, back := make([]int, 64), make([]int, 64)
	for i := range 64 {
		straight[i], back[i] = i, 63-i
	}
	for treadle := range 64 {
		for _, shaft := range []int{0, 1, 31, 62, 63, treadle, 63 - treadle} {
			tie := truthOf(64, 64, func(row, place int) bool { return row == treadle && place == shaft })
			if got := drawdown(t, api.Draft{Threading: straight, Tie: tie, Treadling: straight}); !same(got, tie) {
				t.Fatalf("treadle %d, shaft %d: straight draws are not Tie itself", treadle, shaft)
			}
			want := truthOf(64, 64, func(row, place int) bool { return row == treadle && place == 63-shaft })
			if got := drawdown(t, api.Draft{Threading: back, Tie: tie, Treadling: straight}); !same(got, want) {
				t.Fatalf("treadle %d, shaft %d: ends from the last one on are wrong", treadle, shaft)
			}
			want = truthOf(64, 64, func(row, place int) bool { return row == 63-treadle && place == shaft })
			if got := drawdown(t, api.Draft{Threading: straight, Tie: tie, Treadling: back}); !same(got, want) {
				t.Fatalf("treadle %d, shaft %d: picks from the last one on are wrong", treadle, shaft)
			}
		}
	}
}

// TestD2Sides: with one end or one pick alone, and with as many as there may be.
func TestD2Sides(t *testing.T) {
	for _, ends := range []int{1, 64} {
		for _, picks := range []int{1, 64} {
			for _, tie := range []api.Truth{of("1"), of("0"), every(64, 64), none(64, 64), every(1, 64), every(64, 1)} {
				d := api.Draft{Threading: slices.Repeat([]int{tie.Wide - 1}, ends), Tie: tie, Treadling: slices.Repeat([]int{tie.High - 1}, picks)}
				want := truthOf(ends, picks, func(row, place int) bool { return tie.Bits[0] })
				if got := drawdown(t, d); !same(got, want) {
					t.Errorf("%d ends, %d picks: %v", ends, picks, got)
				}
			}
		}
	}
}

func TestD3FewestKnown(t *testing.T) {
	for _, x := range []struct {
		m    api.Truth
		want api.Draft
	}{
		// Five ends on three shafts: the three columns are unlike.
		{of("10001", "01010", "00100"), api.Draft{Threading: []int{0, 1, 2, 1, 0}, Tie: of("100", "010", "001"), Treadling: []int{0, 1, 2}}},
		{of("10101", "01010", "01010", "10101"), api.Draft{Threading: []int{0, 1, 0, 1, 0}, Tie: of("10", "01"), Treadling: []int{0, 1, 1, 0}}},
		{of("1010", "1010"), api.Draft{Threading: []int{0, 1, 0, 1}, Tie: of("10"), Treadling: []int{0, 0}}},
		{of("11", "00", "11"), api.Draft{Threading: []int{0, 0}, Tie: of("1", "0"), Treadling: []int{0, 1, 0}}},
		{of("1100", "0110", "0011", "1001"), api.Draft{Threading: []int{0, 1, 2, 3}, Tie: of("1100", "0110", "0011", "1001"), Treadling: []int{0, 1, 2, 3}}},
		{of("001", "001", "110"), api.Draft{Threading: []int{0, 0, 1}, Tie: of("01", "10"), Treadling: []int{0, 0, 1}}},
		{of("0110", "0110", "0011", "0110"), api.Draft{Threading: []int{0, 1, 2, 3}, Tie: of("0110", "0011"), Treadling: []int{0, 0, 1, 0}}},
		{of("0011", "0001"), api.Draft{Threading: []int{0, 0, 1, 2}, Tie: of("011", "001"), Treadling: []int{0, 1}}},
		{of("1"), api.Draft{Threading: []int{0}, Tie: of("1"), Treadling: []int{0}}},
		{of("0"), api.Draft{Threading: []int{0}, Tie: of("0"), Treadling: []int{0}}},
		{of("0110"), api.Draft{Threading: []int{0, 1, 1, 0}, Tie: of("01"), Treadling: []int{0}}},
		{of("1", "1", "0", "1"), api.Draft{Threading: []int{0}, Tie: of("1", "0"), Treadling: []int{0, 0, 1, 0}}},
		{none(64, 64), api.Draft{Threading: make([]int, 64), Tie: of("0"), Treadling: make([]int, 64)}},
		{every(64, 64), api.Draft{Threading: make([]int, 64), Tie: of("1"), Treadling: make([]int, 64)}},
	} {
		if got := fewest(t, x.m); !sameDraft(got, x.want) {
			t.Errorf("the fewest for %v is %v, not %v", x.m, got, x.want)
		}
	}
}

// fewestAsWords holds the fewest against each word of D3.
func fewestAsWords(t *testing.T, m api.Truth) {
	t.Helper()
	d := fewest(t, m)
	if want := numbersByWords(columnsOf(t, m)); !slices.Equal(d.Threading, want) {
		t.Fatalf("%v: Threading %v, not %v", m, d.Threading, want)
	}
	if want := numbersByWords(gridOf(t, m)); !slices.Equal(d.Treadling, want) {
		t.Fatalf("%v: Treadling %v, not %v", m, d.Treadling, want)
	}
	if d.Tie.Wide != howMany(d.Threading) || d.Tie.High != howMany(d.Treadling) {
		t.Fatalf("%v: %d shafts, %d treadles", m, d.Tie.Wide, d.Tie.High)
	}
	if err := draft.Wrong(d); err != api.OK {
		t.Fatalf("%v: the fewest %v is wrong: %d", m, d, err)
	}
	if !same(drawdownByWords(t, d), m) || !same(drawdown(t, d), m) {
		t.Fatalf("%v: not what %v weaves", m, d)
	}
}

func TestD3FewestByTheWords(t *testing.T) {
	for _, m := range slices.Concat(smallTruths(), greatTruths(t)) {
		fewestAsWords(t, m)
	}
}

// TestD3AllUnlike: as many shafts and treadles as there are sides, up to MaxTruth.
func TestD3AllUnlike(t *testing.T) {
	for side := 1; side <= 64; side++ {
		m := truthOf(side, side, func(row, place int) bool { return place <= row })
		fewestAsWords(t, m)
		if d := fewest(t, m); d.Tie.Wide != side || d.Tie.High != side || !same(d.Tie, m) {
			t.Errorf("%d by %d: %d shafts, %d treadles", side, side, d.Tie.Wide, d.Tie.High)
		}
	}
}

// TestD3OneRowOrColumn: of each width and height.
func TestD3OneRowOrColumn(t *testing.T) {
	for n := 1; n <= 64; n++ {
		for seed := range 5 {
			fewestAsWords(t, strewn(n, 1, 1+seed, 100*n+seed))
			fewestAsWords(t, strewn(1, n, 1+seed, 100*n+seed))
		}
	}
}

// TestD3NoFewerWillDo: of all drafts with fewer shafts, or with fewer treadles, none weaves it.
func TestD3NoFewerWillDo(t *testing.T) {
	for ends := 1; ends <= 3; ends++ {
		for picks := 1; picks <= 3; picks++ {
			shafts, treadles := leastOfAll(t, ends, picks)
			for _, m := range allTruths(ends, picks) {
				d := fewest(t, m)
				if d.Tie.Wide > shafts[number(m)] || d.Tie.High > treadles[number(m)] {
					t.Errorf("%v: %d shafts and %d treadles will do, not %v", m, shafts[number(m)], treadles[number(m)], d)
				}
			}
		}
	}
}

// number tells small truths apart.
func number(m api.Truth) int {
	n := 0
	for i, b := range m.Bits {
		if b {
			n |= 1 << i
		}
	}
	return n
}

// leastOfAll is with how few shafts, and with how few treadles, each truths of these sides are woven by any draft at all;
// more than one for each end and each pick none needs.
func leastOfAll(t *testing.T, ends, picks int) (shafts, treadles []int) {
	for range 1 << (ends * picks) {
		shafts, treadles = append(shafts, ends), append(treadles, picks)
	}
	for s := 1; s <= ends; s++ {
		for h := 1; h <= picks; h++ {
			if s == ends && h == picks {
				continue
			}
			for _, d := range allDrafts(ends, s, h, picks) {
				n := number(drawdownByWords(t, d))
				shafts[n], treadles[n] = min(shafts[n], s), min(treadles[n], h)
			}
		}
	}
	return shafts, treadles
}

// TestD3OfADrawdown: no more shafts and treadles than those of the draft that are in use, and the same cloth.
func TestD3OfADrawdown(t *testing.T) {
	for _, d := range greatDrafts() {
		m := drawdown(t, d)
		f := fewest(t, m)
		if f.Tie.Wide > howMany(d.Threading) || f.Tie.High > howMany(d.Treadling) {
			t.Fatalf("%v: %d shafts, %d treadles", d, f.Tie.Wide, f.Tie.High)
		}
		if again := fewest(t, drawdown(t, f)); !sameDraft(again, f) {
			t.Fatalf("%v: the fewest of its own cloth is %v", f, again)
		}
	}
}

func TestD3Wrong(t *testing.T) {
	for _, x := range wrongTruths {
		if d, err := draft.Fewest(x.m); err != x.want || !isZeroDraft(d) {
			t.Errorf("%s: %v %d, not %d", x.name, d, err, x.want)
		}
	}
	for n := range 65 {
		for _, m := range []api.Truth{none(n, 0), none(0, n)} {
			if d, err := draft.Fewest(m); err != api.ErrMany || !isZeroDraft(d) {
				t.Errorf("%d by %d: %v %d", m.Wide, m.High, d, err)
			}
		}
	}
}

func TestD4ChainKnown(t *testing.T) {
	for _, x := range []struct {
		d                         api.Draft
		treadling, tie, threading api.Truth
	}{
		{plainDraft(), of("10", "01", "01", "10"), of("101", "010"), of("10001", "01010", "00100")},
		{api.Draft{Threading: []int{0}, Tie: of("1"), Treadling: []int{0}}, of("1"), of("1"), of("1")},
		{api.Draft{Threading: []int{0}, Tie: of("0"), Treadling: []int{0}}, of("1"), of("0"), of("1")},
		// Shafts on which no end hangs, and treadles that are never trodden.
		{api.Draft{Threading: []int{2, 0}, Tie: of("0110", "1001", "1111"), Treadling: []int{1}}, of("010"), of("0110", "1001", "1111"), of("01", "00", "10", "00")},
		{api.Draft{Threading: []int{1}, Tie: of("01"), Treadling: []int{0, 0, 0}}, of("1", "1", "1"), of("01"), of("0", "1")},
	} {
		treadling, tie, threading := chain(t, x.d)
		if !same(treadling, x.treadling) || !same(tie, x.tie) || !same(threading, x.threading) {
			t.Errorf("the chain of %v is %v, %v, %v", x.d, treadling, tie, threading)
		}
	}
}

// TestD4ChainByTheWords: in a row for each pick its treadle alone holds; Tie; in a row for each shaft its ends hold.
func TestD4ChainByTheWords(t *testing.T) {
	for _, d := range slices.Concat(smallDrafts(), greatDrafts()) {
		treadling, tie, threading := chain(t, d)
		wantTreadling := none(d.Tie.High, len(d.Treadling))
		for pick, treadle := range d.Treadling {
			wantTreadling.Bits[pick*d.Tie.High+treadle] = true
		}
		wantThreading := none(len(d.Threading), d.Tie.Wide)
		for end, shaft := range d.Threading {
			wantThreading.Bits[shaft*len(d.Threading)+end] = true
		}
		if !same(treadling, wantTreadling) || !same(tie, d.Tie) || !same(threading, wantThreading) {
			t.Fatalf("the chain of %v is %v, %v, %v", d, treadling, tie, threading)
		}
	}
}

// TestD4ProductIsDrawdown: what the three make of one another is the cloth, from either side.
func TestD4ProductIsDrawdown(t *testing.T) {
	for _, d := range slices.Concat(smallDrafts(), greatDrafts()) {
		treadling, tie, threading := chain(t, d)
		want := drawdown(t, d)
		if got := product(t, product(t, treadling, tie), threading); !same(got, want) {
			t.Fatalf("%v: the products are %v, not %v", d, got, want)
		}
		if got := product(t, treadling, product(t, tie, threading)); !same(got, want) {
			t.Fatalf("%v: the products are %v, not %v", d, got, want)
		}
	}
}

func product(t *testing.T, a, b api.Truth) api.Truth {
	t.Helper()
	m, err := truth.Product(a, b)
	if err != api.OK {
		t.Fatalf("the product of %v and %v: %d", a, b, err)
	}
	return m
}
