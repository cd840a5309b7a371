package truth

import (
	"fmt"
	"slices"
	"testing"

	"tapestry/api"
)

// alikeIs and floatsAre hold the answers against those that are wanted.
func alikeIs(t *testing.T, m api.Truth, want []int) {
	t.Helper()
	if l, err := Alike(m); err != api.OK || !slices.Equal(l, want) {
		t.Fatalf("%v: alike %v %d, not %v", m, l, err, want)
	}
}

func floatsAre(t *testing.T, m api.Truth, down, along int) {
	t.Helper()
	if d, a, err := Floats(m); d != down || a != along || err != api.OK {
		t.Fatalf("%v: floats %d %d %d, not %d %d", m, d, a, err, down, along)
	}
}

func TestT3AlikeKnown(t *testing.T) {
	for _, x := range []struct {
		m    api.Truth
		want []int
	}{
		{of("10", "10", "01", "10"), []int{0, 0, 1, 0}},
		{of("1100", "0110", "0011", "1001"), []int{0, 1, 2, 3}},
		{of("111", "111"), []int{0, 0}},
		{of("0"), []int{0}},
		{of("1"), []int{0}},
		{of("01101"), []int{0}},
		{of("1", "0", "0", "1", "1"), []int{0, 1, 1, 0, 0}},
		{of("11", "00", "01", "00", "10", "01", "11", "10"), []int{0, 1, 2, 1, 3, 2, 0, 3}}, // not as their bits are ordered
		{of("011", "110", "101", "110", "011"), []int{0, 1, 2, 1, 0}},                       // as many hold in each
		{of("1000", "0001", "1000", "0000"), []int{0, 1, 0, 2}},
		{none(0, 0), nil},
		{none(5, 0), nil},
		{none(0, 1), []int{0}},
		{none(0, 4), []int{0, 0, 0, 0}}, // rows without places are alike
	} {
		alikeIs(t, x.m, x.want)
	}
}

func TestT3AlikeByTheWords(t *testing.T) {
	for _, m := range slices.Concat(small(), great()) {
		alikeIs(t, m, alikeByWords(m))
	}
}

// TestT3FarFromEachOther: all rows unlike, but the last one, which is as any one ahead of it; and all rows twice.
func TestT3FarFromEachOther(t *testing.T) {
	for as := range 63 {
		m := made(64, 64, func(y, x int) bool { return x <= y%63 })
		copy(m.Bits[63*64:], m.Bits[as*64:(as+1)*64])
		want := make([]int, 64)
		for y := range want {
			want[y] = y
		}
		want[63] = as
		alikeIs(t, m, want)
	}
	twice := made(64, 64, func(y, x int) bool { return x == y%32*2+1 })
	back := made(64, 64, func(y, x int) bool { return x == min(y, 63-y) })
	var wantTwice, wantBack []int
	for y := range 64 {
		wantTwice, wantBack = append(wantTwice, y%32), append(wantBack, min(y, 63-y))
	}
	alikeIs(t, twice, wantTwice)
	alikeIs(t, back, wantBack)
}

// TestT3OneBitApart: rows that differ in one bit alone, at each place of each width, are not alike.
func TestT3OneBitApart(t *testing.T) {
	for _, wide := range []int{1, 2, 8, 31, 32, 33, 63, 64} {
		for at := range wide {
			first := strewn(wide, 1, 2, wide)
			m := made(wide, 5, func(y, x int) bool { return first.Bits[x] != (x == at && y%2 == 1) })
			alikeIs(t, m, []int{0, 1, 0, 1, 0})
		}
	}
	m := made(64, 64, func(y, x int) bool { return x == y })
	want := make([]int, 64)
	for y := range want {
		want[y] = y
	}
	alikeIs(t, m, want)
	copy(m.Bits[64*64-64:], m.Bits[:64])
	want[63] = 0
	alikeIs(t, m, want)
}

func TestT4FloatsKnown(t *testing.T) {
	for _, x := range []struct {
		m           api.Truth
		down, along int
	}{
		{of("110", "101"), 65, 1}, // the document's example
		{of("101", "011"), 65, 1},
		{of("1100", "0110", "0011", "1001"), 2, 2},
		{of("111", "111"), 65, 0},
		{of("00", "00"), 0, 65},
		{of("10", "10", "01", "10"), 3, 1}, // down round the end
		{of("01", "10", "10", "01"), 2, 1}, // within one column, round the end in the other one
		{of("0100", "1011"), 1, 3},         // along round the end
		{of("10001", "01010"), 1, 3},       // along within the row, two from the beginning and the end
		{of("1", "0", "1"), 2, 65},         // one column alone: a row of one that doesn't hold is all of it
		{of("1", "1", "1"), 65, 0},         // .. and one whose rows all hold
		{of("0", "0"), 0, 65},              // .. and of which none holds
		{of("10100"), 65, 2},               // one row alone: a column of one that holds is all of it
		{of("00100"), 65, 4},               // .. with a run that goes round from both ends
		{of("00000"), 0, 65},               // .. and of which none holds
		{of("11111"), 65, 0},               // .. and of which each one holds
		{of("1"), 65, 0},
		{of("0"), 0, 65},
		{of("10", "01"), 1, 1},
		{of("011", "101", "110"), 2, 1},
		{of("100", "010", "001"), 1, 2},
		{of("000", "011", "000"), 1, 65}, // a whole row is so, no whole column
		{of("101", "111", "101"), 65, 1}, // a whole column is so, no whole row
		{of("110", "011", "110", "011", "101"), 4, 1},
		{of("1010", "0101", "1010", "0101", "1010"), 2, 1}, // what is alike side by side only round the end
		{of("01010", "10101"), 1, 2},
	} {
		floatsAre(t, x.m, x.down, x.along)
	}
}

func TestT4FloatsByTheWords(t *testing.T) {
	for _, m := range slices.Concat(small(), great()) {
		if len(m.Bits) == 0 {
			continue
		}
		down, along := floatsByWords(m)
		floatsAre(t, m, down, along)
	}
}

// TestT4EachRunEverywhere: one run of each length from each place on, in one column or row of a full side, and in an only one.
func TestT4EachRunEverywhere(t *testing.T) {
	for _, n := range []int{1, 2, 3, 8, 63, 64} {
		for long := 0; long <= n; long++ {
			want := long
			if long == n {
				want = 65
			}
			for from := range n {
				in := func(i int) bool { return (i-from+n)%n < long }
				for _, wide := range []int{1, 3} {
					floatsAre(t, made(wide+1, n, func(y, x int) bool { return x == wide-1 && in(y) }), want, alongOf(wide+1, n, long))
					floatsAre(t, made(n, wide+1, func(y, x int) bool { return y != wide-1 || !in(x) }), downOf(wide+1, n, long), want)
				}
			}
		}
	}
}

// alongOf is the longest run along, where one column of several has so many that hold of n.
func alongOf(wide, n, hold int) int {
	if hold < n {
		return 65
	}
	return wide - 1
}

// downOf is the longest run down, where one row of several has so many that don't hold of n.
func downOf(high, n, not int) int {
	if not < n {
		return 65
	}
	return high - 1
}

// TestT4LongestIsMaxTruthLessOne: no run that ends is longer; one that doesn't is told as longer than all that could.
func TestT4LongestIsMaxTruthLessOne(t *testing.T) {
	for at := range 64 {
		floatsAre(t, made(64, 64, func(y, x int) bool { return y != at }), 63, 65)
		floatsAre(t, made(64, 64, func(y, x int) bool { return x == at }), 65, 63)
		floatsAre(t, made(64, 64, func(y, x int) bool { return (x+y)%64 == at }), 1, 63)
		floatsAre(t, made(64, 64, func(y, x int) bool { return (x+y)%64 != at }), 63, 1)
	}
}

// TestT4TurnedAndNot: what holds down a column doesn't hold along a row, when truths are turned and each becomes the other.
func TestT4TurnedAndNot(t *testing.T) {
	for _, m := range great() {
		if len(m.Bits) == 0 {
			continue
		}
		down, along, _ := Floats(m)
		floatsAre(t, made(m.High, m.Wide, func(y, x int) bool { return !holds(m, x, y) }), along, down)
	}
}

func TestT4NoBits(t *testing.T) {
	for n := range 65 {
		for _, m := range []api.Truth{none(n, 0), none(0, n)} {
			if d, a, err := Floats(m); d != 0 || a != 0 || err != api.ErrMany {
				t.Errorf("%d by %d: %d %d %d", m.Wide, m.High, d, a, err)
			}
		}
	}
	// What is wrong with truths is told ahead of there being no bits.
	for _, x := range []struct {
		m    api.Truth
		want api.Errno
	}{
		{api.Truth{Wide: 65}, api.ErrRange},
		{api.Truth{High: -1}, api.ErrRange},
		{api.Truth{Wide: 1, High: 1}, api.ErrFit},
		{api.Truth{Wide: 4, Bits: []bool{true}}, api.ErrFit},
	} {
		if d, a, err := Floats(x.m); d != 0 || a != 0 || err != x.want {
			t.Errorf("%v: %d %d %d, not %d", x.m, d, a, err, x.want)
		}
	}
}

// roomy are the same truths, with spare room behind them that is full of what.
func roomy(m api.Truth, what bool) (out api.Truth, whole []bool) {
	whole = slices.Concat(m.Bits, slices.Repeat([]bool{what}, 70))
	return api.Truth{Wide: m.Wide, High: m.High, Bits: whole[:len(m.Bits)]}, whole
}

// TestE2OnlyReads: neither truths nor the spare room behind them are changed, nor is that room looked at.
func TestE2OnlyReads(t *testing.T) {
	for _, m := range []api.Truth{of("1"), of("101", "011", "110"), none(0, 0), none(3, 0), none(0, 3), every(64, 64), strewn(9, 9, 3, 7), {Wide: 3, High: 3, Bits: []bool{true}}} {
		for _, what := range []bool{false, true} {
			a, wholeA := roomy(m, what)
			b, wholeB := roomy(m, !what)
			keptA, keptB := slices.Clone(wholeA), slices.Clone(wholeB)
			got, err := Product(a, b)
			want, wantErr := Product(m, m)
			if !same(got, want) || err != wantErr {
				t.Errorf("the product of %v hangs on spare room: %v %d", m, got, err)
			}
			if x, _ := Turned(a); !same(x, turnedOrNone(m)) {
				t.Errorf("%v turned hangs on spare room: %v", m, x)
			}
			x, _ := Alike(a)
			y, _ := Alike(m)
			d, l, _ := Floats(a)
			d2, l2, _ := Floats(m)
			if !slices.Equal(x, y) || d != d2 || l != l2 || Wrong(a) != Wrong(m) {
				t.Errorf("%v: rows or runs hang on spare room", m)
			}
			if !slices.Equal(wholeA, keptA) || !slices.Equal(wholeB, keptB) {
				t.Errorf("%v was changed", m)
			}
		}
	}
}

func turnedOrNone(m api.Truth) api.Truth {
	if Wrong(m) != api.OK {
		return api.Truth{}
	}
	return turnedByWords(m)
}

// TestE2NewMemory: what is answered, its spare room too, has nothing to do with what was handed in, nor with another answer.
func TestE2NewMemory(t *testing.T) {
	for _, m := range []api.Truth{of("1"), of("0"), of("1011"), of("1", "1", "0"), unit(3), unit(64), every(8, 8), none(4, 4)} {
		kept := slices.Clone(m.Bits)
		for name, answer := range map[string]func() api.Truth{
			"turned":                  func() api.Truth { return turned(t, m) },
			"the product with unit":   func() api.Truth { return product(t, m, unit(m.Wide)) },
			"the product of unit":     func() api.Truth { return product(t, unit(m.High), m) },
			"the product of turned":   func() api.Truth { return product(t, turned(t, m), m) },
			"the product with turned": func() api.Truth { return product(t, m, turned(t, m)) },
		} {
			one, other := answer(), answer()
			want := slices.Clone(other.Bits)
			spoil(one.Bits, func(b bool) bool { return !b })
			if !slices.Equal(m.Bits, kept) || !slices.Equal(other.Bits, want) {
				t.Errorf("%v, %s: memory is shared", m, name)
			}
		}
		one, _ := Alike(m)
		other, _ := Alike(m)
		want := slices.Clone(other)
		spoil(one, func(n int) int { return n + 7 })
		if !slices.Equal(other, want) || !slices.Equal(m.Bits, kept) {
			t.Errorf("%v, alike: memory is shared", m)
		}
	}
}

// spoil changes a list, and the spare room behind it.
func spoil[T any](l []T, change func(T) T) {
	l = l[:cap(l)]
	for i := range l {
		l[i] = change(l[i])
	}
}

// TestE1SameAnswers: asked again, each call answers the same.
func TestE1SameAnswers(t *testing.T) {
	m := strewn(40, 50, 3, 1)
	first := answers(m)
	answers(strewn(50, 40, 2, 2))
	if again := answers(m); again != first {
		t.Errorf("%s, then %s", first, again)
	}
}

// answers are all answers of truths, as a text.
func answers(m api.Truth) string {
	x, err := Turned(m)
	y, errY := Product(m, x)
	l, errL := Alike(m)
	down, along, errF := Floats(m)
	return fmt.Sprint(Wrong(m), x, err, y, errY, l, errL, down, along, errF)
}
