package dobby_test

import (
	"math"
	"testing"

	"tapestry/api"
	"tapestry/dobby"
)

// TestL1Begins: in which state a loom begins, by the disk's words, and that nothing is put.
func TestL1Begins(t *testing.T) {
	m := of("101", "011", "110")
	for _, x := range []struct {
		name         string
		words        []int64
		state, woven int
	}{
		{"a new disk", []int64{0, 0}, api.LoomIdle, 0},
		{"the first pick in doubt", []int64{0, 1}, api.LoomDoubt, 0},
		{"two more than none", []int64{0, 2}, api.LoomIdle, 0},
		{"word 1 below 0", []int64{0, -1}, api.LoomIdle, 0},
		{"one pick woven", []int64{1, 1}, api.LoomIdle, 1},
		{"one pick woven, word 1 forgotten", []int64{1, 0}, api.LoomIdle, 1},
		{"the second pick in doubt", []int64{1, 2}, api.LoomDoubt, 1},
		{"two more than one", []int64{1, 3}, api.LoomIdle, 1},
		{"two picks woven", []int64{2, 2}, api.LoomIdle, 2},
		{"the last pick in doubt", []int64{2, 3}, api.LoomDoubt, 2},
		{"word 1 below word 0", []int64{2, 1}, api.LoomIdle, 2},
		{"all", []int64{3, 3}, api.LoomDone, 3},
		{"all, and one more", []int64{3, 4}, api.LoomDone, 3},
		{"all, word 1 forgotten", []int64{3, 0}, api.LoomDone, 3},
		{"above all", []int64{4, 4}, api.LoomIdle, 0},
		{"above all, and one more than that", []int64{4, 5}, api.LoomIdle, 0},
		{"above all, and one more than none", []int64{4, 1}, api.LoomDoubt, 0},
		{"below 0", []int64{-1, -1}, api.LoomIdle, 0},
		{"below 0, and one more than that", []int64{-1, 0}, api.LoomIdle, 0},
		{"below 0, and one more than none", []int64{-1, 1}, api.LoomDoubt, 0},
		{"the least words", []int64{math.MinInt64, math.MinInt64}, api.LoomIdle, 0},
		{"the greatest words", []int64{math.MaxInt64, math.MaxInt64}, api.LoomIdle, 0},
		{"one more than the greatest", []int64{math.MaxInt64, math.MinInt64}, api.LoomIdle, 0},
		{"the greatest, and one", []int64{math.MaxInt64, 1}, api.LoomDoubt, 0},
		{"the least, and one", []int64{math.MinInt64, 1}, api.LoomDoubt, 0},
		{"as 2, in the lower half of a word", []int64{1<<32 + 2, 1<<32 + 3}, api.LoomIdle, 0},
		{"as 3, in the lower half of word 1", []int64{2, 1<<32 + 3}, api.LoomIdle, 2},
		{"as 1, in the lower byte", []int64{257, 258}, api.LoomIdle, 0},
		{"more words than two", []int64{1, 2, 77, -5}, api.LoomDoubt, 1},
		{"more words than two, all woven", []int64{3, 0, 9, 9, 9}, api.LoomDone, 3},
	} {
		t.Run(x.name, func(t *testing.T) {
			d := diskOf(append([]int64{}, x.words...)...)
			isIn(t, open(t, m, d), m, x.state, x.woven)
			d.has(t, x.words...)
			d.left = 0 // without power a loom can be opened too
			isIn(t, open(t, m, d), m, x.state, x.woven)
			if d.puts != 0 {
				t.Errorf("%d words were put", d.puts)
			}
		})
	}
}

// TestL1AllWords: cloths of each height, with all words near what there is.
func TestL1AllWords(t *testing.T) {
	for high := 1; high <= api.MaxTruth; high++ {
		m := strewn(1+high%3, high, high)
		for zero := int64(-2); zero <= int64(high)+2; zero++ {
			for one := int64(-2); one <= int64(high)+4; one++ {
				d := diskOf(zero, one)
				want := openedByWords(m, [2]int64{zero, one}, true)
				isIn(t, open(t, m, d), m, want.state, want.woven)
				d.has(t, zero, one)
				if d.puts != 0 {
					t.Fatalf("%d words were put", d.puts)
				}
			}
		}
	}
}

// TestL1Rows: of each pick, behind Open at each one, the row of that pick, to the widest and highest cloth.
func TestL1Rows(t *testing.T) {
	for _, wide := range []int{1, 2, 7, 63, 64} {
		for _, high := range []int{1, 2, 5, 64} {
			m := strewn(wide, high, 10*wide+high)
			for y := range high {
				l := open(t, m, diskOf(int64(y), 0))
				isIn(t, l, m, api.LoomIdle, y)
				tell(t, l, api.EventStart)
				isIn(t, l, m, api.LoomLifting, y)
			}
			isIn(t, open(t, m, diskOf(int64(high), 0)), m, api.LoomDone, high)
		}
	}
}

// wrongCloths are truths that no loom weaves, and why.
func wrongCloths() []struct {
	name string
	m    api.Truth
	want api.Errno
} {
	return []struct {
		name string
		m    api.Truth
		want api.Errno
	}{
		{"too wide", api.Truth{Wide: 65, High: 1, Bits: make([]bool, 65)}, api.ErrRange},
		{"too high", api.Truth{Wide: 1, High: 65, Bits: make([]bool, 65)}, api.ErrRange},
		{"too wide, no bits", api.Truth{Wide: 65}, api.ErrRange},
		{"too high, no bits", api.Truth{High: 65}, api.ErrRange},
		{"width below 0", api.Truth{Wide: -1, High: 1}, api.ErrRange},
		{"height below 0", api.Truth{Wide: 1, High: -1}, api.ErrRange},
		{"both below 0, with as many bits as their product", api.Truth{Wide: -2, High: -2, Bits: make([]bool, 4)}, api.ErrRange},
		{"a product that wraps round", api.Truth{Wide: math.MaxInt, High: math.MaxInt, Bits: []bool{true}}, api.ErrRange},
		{"the least", api.Truth{Wide: math.MinInt, High: 2}, api.ErrRange},
		{"too wide, and bits that don't fit", api.Truth{Wide: 65, High: 2, Bits: make([]bool, 3)}, api.ErrRange},
		{"a bit too few, with room for it", api.Truth{Wide: 2, High: 2, Bits: make([]bool, 3, 4)}, api.ErrFit},
		{"a bit too many", api.Truth{Wide: 2, High: 2, Bits: make([]bool, 5)}, api.ErrFit},
		{"places, and no bits", api.Truth{Wide: 1, High: 1}, api.ErrFit},
		{"bits, and no places", api.Truth{Bits: []bool{true}}, api.ErrFit},
		{"bits, and no rows", api.Truth{Wide: 3, Bits: []bool{true}}, api.ErrFit},
		{"bits, and no columns", api.Truth{High: 3, Bits: []bool{true}}, api.ErrFit},
		{"nothing", api.Truth{}, api.ErrMany},
		{"nothing, and not nil", api.Truth{Bits: []bool{}}, api.ErrMany},
		{"no rows", api.Truth{Wide: 5}, api.ErrMany},
		{"no rows of the widest, with spare room", api.Truth{Wide: 64, Bits: make([]bool, 0, 64)}, api.ErrMany},
		{"no columns", api.Truth{High: 5}, api.ErrMany},
		{"no columns of the highest", api.Truth{High: 64, Bits: []bool{}}, api.ErrMany},
	}
}

// refusesToOpen: no loom, and why; nothing is put on the disk.
func refusesToOpen(t *testing.T, m api.Truth, d api.Disk, want api.Errno) {
	t.Helper()
	if l, err := dobby.Open(m, d); l != nil || err != want {
		t.Errorf("%v %d, not %d", l, err, want)
	}
}

// TestL1WrongCloths: what is wrong with the truths is told ahead of what is wrong with the disk.
func TestL1WrongCloths(t *testing.T) {
	for _, x := range wrongCloths() {
		t.Run(x.name, func(t *testing.T) {
			for _, words := range [][]int64{{0, 0}, {0, 1}, {5, 6}, {0}, {}, nil, {1, 2, 3}} {
				d := diskOf(append([]int64{}, words...)...)
				refusesToOpen(t, x.m, d, x.want)
				d.has(t, words...)
				if d.puts != 0 {
					t.Errorf("%d words were put", d.puts)
				}
			}
			refusesToOpen(t, x.m, nil, x.want)
		})
	}
}

// saysSize is a disk that says how many words it has, and has none of them.
type saysSize int

func (s saysSize) Size() int { return int(s) }

func (s saysSize) Get(i int) int64 { panic("it has no words") }

func (s saysSize) Put(i int, w int64) bool { panic("it has no words") }

// TestL1SmallDisk: fewer than two words are too few, and none of them is asked for.
func TestL1SmallDisk(t *testing.T) {
	for _, m := range []api.Truth{of("1"), of("10", "01"), strewn(64, 64, 1)} {
		for _, size := range []int{1, 0, -1, math.MinInt} {
			refusesToOpen(t, m, saysSize(size), api.ErrMuch)
		}
		for _, words := range [][]int64{nil, {}, {0}, {1}, {-1}} {
			d := diskOf(append([]int64{}, words...)...)
			refusesToOpen(t, m, d, api.ErrMuch)
			d.has(t, words...)
		}
		refusesToOpen(t, m, nil, api.ErrMuch)
		isIn(t, open(t, m, diskOf(0, 0)), m, api.LoomIdle, 0)
	}
}
