package truth

import (
	"math"
	"slices"
	"testing"

	"tapestry/api"
)

// calls are all calls that take truths alone, as functions that tell the error, and whether all else is zero.
func calls(m api.Truth) map[string]func() (api.Errno, bool) {
	return map[string]func() (api.Errno, bool){
		"Wrong":   func() (api.Errno, bool) { return Wrong(m), true },
		"Turned":  func() (api.Errno, bool) { out, err := Turned(m); return err, isZero(out) },
		"Alike":   func() (api.Errno, bool) { l, err := Alike(m); return err, len(l) == 0 },
		"Floats":  func() (api.Errno, bool) { d, a, err := Floats(m); return err, d == 0 && a == 0 },
		"Product": func() (api.Errno, bool) { out, err := Product(m, unit(2)); return err, isZero(out) },
		"second":  func() (api.Errno, bool) { out, err := Product(unit(2), m); return err, isZero(out) },
		"itself":  func() (api.Errno, bool) { out, err := Product(m, m); return err, isZero(out) },
	}
}

func isZero(m api.Truth) bool { return m.Wide == 0 && m.High == 0 && len(m.Bits) == 0 }

// wrongTruths are truths with each thing that can be wrong with them, and what that is.
var wrongTruths = []struct {
	name string
	m    api.Truth
	want api.Errno
}{
	{"Wide below 0", api.Truth{Wide: -1, High: 2}, api.ErrRange},
	{"High below 0", api.Truth{Wide: 2, High: -1}, api.ErrRange},
	{"both below 0, with as many bits", api.Truth{Wide: -2, High: -2, Bits: make([]bool, 4)}, api.ErrRange},
	{"both -1, with one bit", api.Truth{Wide: -1, High: -1, Bits: []bool{true}}, api.ErrRange},
	{"Wide below 0, no rows", api.Truth{Wide: -1}, api.ErrRange},
	{"High below 0, no columns", api.Truth{High: -1}, api.ErrRange},
	{"too wide", none(65, 1), api.ErrRange},
	{"too high", none(1, 65), api.ErrRange},
	{"too wide and too high", none(65, 65), api.ErrRange},
	{"too wide, no rows", api.Truth{Wide: 65}, api.ErrRange},
	{"too high, no columns", api.Truth{High: 65}, api.ErrRange},
	{"too wide, as high as can be", none(65, 64), api.ErrRange},
	{"too high, as wide as can be", none(64, 65), api.ErrRange},
	{"least Wide", api.Truth{Wide: math.MinInt, High: 2}, api.ErrRange},
	{"least High", api.Truth{Wide: 2, High: math.MinInt}, api.ErrRange},
	{"greatest Wide", api.Truth{Wide: math.MaxInt, High: 1}, api.ErrRange},
	{"greatest High", api.Truth{Wide: 1, High: math.MaxInt}, api.ErrRange},
	{"both greatest", api.Truth{Wide: math.MaxInt, High: math.MaxInt, Bits: []bool{true}}, api.ErrRange}, // their product wraps round to 1
	{"sides that wrap round to 0", api.Truth{Wide: 1 << 32, High: 1 << 32}, api.ErrRange},

	{"no bits", api.Truth{Wide: 2, High: 2}, api.ErrFit},
	{"empty bits", api.Truth{Wide: 1, High: 1, Bits: []bool{}}, api.ErrFit},
	{"a bit too few", api.Truth{Wide: 2, High: 3, Bits: make([]bool, 5)}, api.ErrFit},
	{"a bit too few, and one of spare room", api.Truth{Wide: 2, High: 2, Bits: make([]bool, 3, 4)}, api.ErrFit},
	{"a bit too many", api.Truth{Wide: 2, High: 3, Bits: make([]bool, 7)}, api.ErrFit},
	{"a row too many", api.Truth{Wide: 2, High: 2, Bits: make([]bool, 6)}, api.ErrFit},
	{"a bit, and no sides", api.Truth{Bits: []bool{false}}, api.ErrFit},
	{"a bit, and no rows", api.Truth{Wide: 3, Bits: []bool{true}}, api.ErrFit},
	{"a bit, and no columns", api.Truth{High: 3, Bits: []bool{true}}, api.ErrFit},
	{"greatest sides, a bit too few", api.Truth{Wide: 64, High: 64, Bits: make([]bool, 4095, 4096)}, api.ErrFit},
	{"greatest sides, a bit too many", api.Truth{Wide: 64, High: 64, Bits: make([]bool, 4097)}, api.ErrFit},

	{"too wide, without bits", api.Truth{Wide: 65, High: 2}, api.ErrRange},
	{"too high, with a bit too many", api.Truth{Wide: 1, High: 65, Bits: make([]bool, 66)}, api.ErrRange},
	{"High below 0, with a bit", api.Truth{Wide: 1, High: -1, Bits: []bool{true}}, api.ErrRange},
	{"one below 0, the other too great", api.Truth{Wide: -1, High: 65}, api.ErrRange},
}

func TestT1Wrong(t *testing.T) {
	for _, x := range wrongTruths {
		for name, call := range calls(x.m) {
			if err, zero := call(); err != x.want || !zero {
				t.Errorf("%s: %s tells %d, zero %v, not %d", x.name, name, err, zero, x.want)
			}
		}
	}
}

func TestT1NothingWrong(t *testing.T) {
	for wide := range 65 {
		for high := range 65 {
			if err := Wrong(none(wide, high)); err != api.OK {
				t.Errorf("%d by %d: %d", wide, high, err)
			}
			m := api.Truth{Wide: wide, High: high, Bits: make([]bool, wide*high+1)}
			if err := Wrong(m); err != api.ErrFit {
				t.Errorf("%d by %d, a bit too many: %d", wide, high, err)
			}
			m.Bits = m.Bits[:max(0, wide*high-1)]
			want := api.ErrFit
			if wide*high == 0 {
				want = api.OK
			}
			if err := Wrong(m); err != want {
				t.Errorf("%d by %d, a bit too few: %d, not %d", wide, high, err, want)
			}
		}
	}
}

// TestE3NilIsEmpty: with no bits it is all one whether they are nil.
func TestE3NilIsEmpty(t *testing.T) {
	for _, side := range [][2]int{{0, 0}, {3, 0}, {0, 3}, {64, 0}, {0, 64}} {
		for _, bits := range [][]bool{nil, {}} {
			m := api.Truth{Wide: side[0], High: side[1], Bits: bits}
			if err := Wrong(m); err != api.OK {
				t.Errorf("%v: %d", m, err)
			}
			if got := turned(t, m); !same(got, none(m.High, m.Wide)) {
				t.Errorf("%v turned is %v", m, got)
			}
			if l, err := Alike(m); err != api.OK || !slices.Equal(l, make([]int, m.High)) {
				t.Errorf("%v: alike %v %d", m, l, err)
			}
			if d, a, err := Floats(m); d != 0 || a != 0 || err != api.ErrMany {
				t.Errorf("%v: floats %d %d %d", m, d, a, err)
			}
		}
	}
}

func TestT2ProductKnown(t *testing.T) {
	for _, x := range []struct{ a, b, want api.Truth }{
		{of("101", "011"), of("10", "01", "11"), of("11", "11")},
		{of("10", "01"), of("01", "10"), of("01", "10")},
		{of("110", "001"), of("1000", "0100", "0011"), of("1100", "0011")},
		{of("0110"), of("100", "000", "001", "111"), of("001")},
		{of("0101"), of("0", "1", "0", "0"), of("1")},
		{of("0101"), of("1", "0", "1", "0"), of("0")},
		{of("1", "0", "1"), of("011"), of("011", "000", "011")},
		{of("010", "001", "100"), of("111", "000", "101"), of("000", "101", "111")}, // from the left rows are exchanged
		{of("111", "000", "101"), of("010", "001", "100"), of("111", "000", "110")}, // from the right columns
		{of("1"), of("1"), of("1")},
		{of("1"), of("0"), of("0")},
		{of("11", "11"), of("11", "11"), of("11", "11")},
	} {
		if got := product(t, x.a, x.b); !same(got, x.want) {
			t.Errorf("the product of %v and %v is %v, not %v", x.a, x.b, got, x.want)
		}
	}
}

// TestT2ProductOverNothing: where the first is 0 wide there is no k, so that nothing holds; and there may be no place at all.
func TestT2ProductOverNothing(t *testing.T) {
	for _, wide := range []int{0, 1, 3, 64} {
		for _, high := range []int{0, 1, 3, 64} {
			if got := product(t, none(0, high), none(wide, 0)); !same(got, none(wide, high)) {
				t.Errorf("%d high by %d wide: %v", high, wide, got)
			}
			if got := product(t, every(wide, 0), every(high, wide)); !same(got, none(high, 0)) {
				t.Errorf("no rows, over %d: %v", wide, got)
			}
			if got := product(t, every(wide, high), every(0, wide)); !same(got, none(0, high)) {
				t.Errorf("no columns, over %d: %v", wide, got)
			}
		}
	}
}

func TestT2ProductOfAllSmall(t *testing.T) {
	sides := []int{0, 1, 2, 3}
	for _, high := range sides {
		for _, between := range sides {
			for _, wide := range sides {
				if high*between+between*wide > 15 {
					continue
				}
				for _, a := range all(between, high) {
					for _, b := range all(wide, between) {
						if got := product(t, a, b); !same(got, productByWords(a, b)) {
							t.Fatalf("the product of %v and %v is %v", a, b, got)
						}
					}
				}
			}
		}
	}
}

// fitting are pairs of which the first is as wide as the second is high, up to the greatest sides.
func fitting() [][2]api.Truth {
	var out [][2]api.Truth
	sides := []int{1, 2, 5, 31, 64}
	for i, high := range sides {
		for j, between := range sides {
			for k, wide := range sides {
				for _, oneIn := range []int{2, 7, 40} {
					number := i*100 + j*10 + k
					out = append(out, [2]api.Truth{strewn(between, high, oneIn, number), strewn(wide, between, oneIn, number+1000)})
				}
			}
		}
	}
	return out
}

func TestT2ProductOfGreat(t *testing.T) {
	for _, p := range fitting() {
		if got := product(t, p[0], p[1]); !same(got, productByWords(p[0], p[1])) {
			t.Fatalf("the product of %v and %v is %v", p[0], p[1], got)
		}
	}
}

// TestT2OneDotMeetsAnother: one that holds in the first and one in the second meet only at one k.
func TestT2OneDotMeetsAnother(t *testing.T) {
	for k := range 64 {
		for l := range 64 {
			y, x := (k*7+l)%64, (l*5+3*k)%64
			a := made(64, 64, func(r, c int) bool { return r == y && c == k })
			b := made(64, 64, func(r, c int) bool { return r == l && c == x })
			want := made(64, 64, func(r, c int) bool { return k == l && r == y && c == x })
			if (k == l || (k+l)%9 == 0) && !same(product(t, a, b), want) {
				t.Fatalf("row %d at %d, and row %d at %d: wrong", y, k, l, x)
			}
		}
	}
}

func TestT2ProductOfUnitAndOfNone(t *testing.T) {
	for _, m := range great() {
		if !same(product(t, unit(m.High), m), m) || !same(product(t, m, unit(m.Wide)), m) {
			t.Fatalf("%v is not the product of itself and of the unit", m)
		}
		if !same(product(t, m, none(5, m.Wide)), none(5, m.High)) || !same(product(t, none(m.High, 5), m), none(m.Wide, 5)) {
			t.Fatalf("%v makes something of nothing", m)
		}
	}
}

func TestT2ProductTurned(t *testing.T) {
	for _, p := range fitting() {
		one := turned(t, product(t, p[0], p[1]))
		if !same(one, product(t, turned(t, p[1]), turned(t, p[0]))) {
			t.Fatalf("the product of %v and %v, turned, is not that of both turned", p[0], p[1])
		}
	}
}

func TestT2ThreeEitherWay(t *testing.T) {
	for i, p := range fitting() {
		c := strewn(1+i%64, p[1].Wide, 3, i)
		left := product(t, product(t, p[0], p[1]), c)
		if !same(left, product(t, p[0], product(t, p[1], c))) {
			t.Fatalf("%v, %v and %v: not either way", p[0], p[1], c)
		}
	}
}

func TestT2ProductWrong(t *testing.T) {
	for _, x := range wrongTruths {
		for _, y := range wrongTruths {
			if m, err := Product(x.m, y.m); err != x.want || !isZero(m) {
				t.Errorf("%s, and %s: %v %d, not %d", x.name, y.name, m, err, x.want)
			}
		}
		for _, m := range []api.Truth{of("1"), none(0, 0), none(0, 64), none(64, 0), every(64, 64), none(7, 3)} {
			if out, err := Product(x.m, m); err != x.want || !isZero(out) {
				t.Errorf("%s, and %d by %d: %v %d, not %d", x.name, m.Wide, m.High, out, err, x.want)
			}
			if out, err := Product(m, x.m); err != x.want || !isZero(out) {
				t.Errorf("%d by %d, and %s: %v %d, not %d", m.Wide, m.High, x.name, out, err, x.want)
			}
		}
	}
}

func TestT2ProductFit(t *testing.T) {
	sides := []int{0, 1, 2, 3, 63, 64}
	for _, high := range sides {
		for _, between := range sides {
			for _, other := range sides {
				for _, wide := range sides {
					m, err := Product(every(between, high), every(wide, other))
					if (err == api.OK) != (between == other) || err != api.OK && (err != api.ErrFit || !isZero(m)) {
						t.Errorf("%d wide, %d high, by %d wide, %d high: %v %d", between, high, wide, other, m, err)
					}
				}
			}
		}
	}
}

func TestT2TurnedKnown(t *testing.T) {
	for _, x := range []struct{ m, want api.Truth }{
		{of("101", "011"), of("10", "01", "11")},
		{of("1100", "0110", "0011", "1001"), of("1001", "1100", "0110", "0011")},
		{of("10110"), of("1", "0", "1", "1", "0")},
		{of("0", "1", "1"), of("011")},
		{of("1"), of("1")},
		{of("01", "00"), of("00", "10")},
		{none(0, 0), none(0, 0)},
		{none(0, 3), none(3, 0)},
		{none(64, 0), none(0, 64)},
	} {
		if got := turned(t, x.m); !same(got, x.want) {
			t.Errorf("%v turned is %v, not %v", x.m, got, x.want)
		}
	}
}

func TestT2TurnedOnceAndTwice(t *testing.T) {
	for _, m := range slices.Concat(small(), great()) {
		once := turned(t, m)
		if !same(once, turnedByWords(m)) {
			t.Fatalf("%v turned is %v", m, once)
		}
		if !same(turned(t, once), m) {
			t.Fatalf("%v turned twice is %v", m, turned(t, once))
		}
	}
}
