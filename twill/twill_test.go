package twill_test

import (
	"slices"
	"testing"

	"tapestry/api"
	"tapestry/twill"
)

func TestW1TwillKnown(t *testing.T) {
	for _, x := range []struct {
		runs []int
		move int
		want api.Truth
	}{
		{[]int{1, 1}, 1, of("10", "01")}, // plain weave
		{[]int{2, 2}, 1, of("1100", "0110", "0011", "1001")},
		{[]int{2, 2}, 2, of("1100", "0011", "1100", "0011")},
		{[]int{2, 2}, 3, of("1100", "1001", "0011", "0110")},
		{[]int{1, 2}, 1, of("100", "010", "001")},
		{[]int{2, 1}, 1, of("110", "011", "101")},
		{[]int{2, 1}, 2, of("110", "101", "011")},
		{[]int{1, 3}, 2, of("1000", "0010", "1000", "0010")},
		{[]int{3, 1}, 1, of("1110", "0111", "1011", "1101")},
		{[]int{1, 1, 1, 1}, 1, of("1010", "0101", "1010", "0101")},
		{[]int{1, 1, 1, 1}, 2, of("1010", "1010", "1010", "1010")},
		{[]int{1, 1, 2, 1}, 2, of("10110", "10101", "01101", "01011", "11010")},
		{[]int{3, 1, 1, 2}, 3, of("1110100", "1001110", "1101001", "0011101", "1010011", "0111010", "0100111")},
		{[]int{1, 1, 1, 1, 2, 1}, 1, of("1010110", "0101011", "1010101", "1101010", "0110101", "1011010", "0101101")},
	} {
		if got := made(t, x.runs, x.move); !same(got, x.want) {
			t.Errorf("the twill of %v by %d is %v, not %v", x.runs, x.move, got, x.want)
		}
	}
}

// TestW1SmallByTheWords: all runs that are together few, with all moves.
func TestW1SmallByTheWords(t *testing.T) {
	for n := 2; n <= 10; n++ {
		for count := 2; count <= n; count += 2 {
			for _, runs := range allRuns(count, n) {
				for move := 1; move < n; move++ {
					isTwill(t, made(t, runs, move), runs, move)
				}
			}
		}
	}
}

// TestW1GreatByTheWords: of each number of runs some that are together up to MaxTruth, with all moves.
func TestW1GreatByTheWords(t *testing.T) {
	for count := 2; count <= api.MaxRuns; count += 2 {
		for i, n := range []int{count, count + 1, 23, 32, 45, 63, 64} {
			runs := strewnRuns(count, n, 100*count+i)
			for move := 1; move < n; move++ {
				isTwill(t, made(t, runs, move), runs, move)
			}
		}
	}
}

// TestW1Edges: the fewest and the most runs, the shortest and the longest ones, the least and the greatest move of each.
func TestW1Edges(t *testing.T) {
	fifteen := slices.Repeat([]int{1}, 15)
	for _, runs := range [][]int{
		{1, 1},
		{1, 63},
		{63, 1},
		{32, 32},
		{1, 62},
		{1, 1, 1, 61},
		{61, 1, 1, 1},
		slices.Repeat([]int{1}, 16),
		slices.Repeat([]int{4}, 16),
		slices.Repeat([]int{4, 3}, 8),
		slices.Concat(fifteen, []int{49}),
		slices.Concat([]int{49}, fifteen),
		slices.Concat(fifteen[:7], []int{49}, fifteen[:8]),
	} {
		for _, move := range []int{1, together(runs) - 1} {
			isTwill(t, made(t, runs, move), runs, move)
		}
	}
}

// TestW1EachRowKnown: where one end is up alone, it is at place y times move in row y, going round.
func TestW1EachRowKnown(t *testing.T) {
	for n := 2; n <= 64; n++ {
		for move := 1; move < n; move++ {
			want := truthOf(n, n, func(row, place int) bool { return place == row*move%n })
			if got := made(t, []int{1, n - 1}, move); !same(got, want) {
				t.Fatalf("one up of %d by %d: %v", n, move, got)
			}
		}
	}
}

func TestW2MovesKnown(t *testing.T) {
	for ends, want := range map[int][]int{
		1: nil, 2: nil, 3: nil, 4: nil, 5: {2, 3}, 6: nil, 7: {2, 3, 4, 5}, 8: {3, 5}, 9: {2, 4, 5, 7}, 10: {3, 7},
		11: {2, 3, 4, 5, 6, 7, 8, 9}, 12: {5, 7}, 13: {2, 3, 4, 5, 6, 7, 8, 9, 10, 11}, 14: {3, 5, 9, 11}, 15: {2, 4, 7, 8, 11, 13},
		16: {3, 5, 7, 9, 11, 13}, 18: {5, 7, 11, 13}, 24: {5, 7, 11, 13, 17, 19}, 30: {7, 11, 13, 17, 19, 23},
		60: {7, 11, 13, 17, 19, 23, 29, 31, 37, 41, 43, 47, 49, 53},
	} {
		if got := moves(t, ends); !slices.Equal(got, want) {
			t.Errorf("the moves of %d ends are %v, not %v", ends, got, want)
		}
	}
}

func TestW2MovesByTheWords(t *testing.T) {
	for ends := 1; ends <= 64; ends++ {
		if got, want := moves(t, ends), movesByWords(ends); !slices.Equal(got, want) {
			t.Errorf("the moves of %d ends are %v, not %v", ends, got, want)
		}
	}
}

// TestW2MovesEdges: all odd ones of MaxTruth, all of a great prime, and none of 1, 2, 3, 4 and 6 alone.
func TestW2MovesEdges(t *testing.T) {
	var odd, all []int
	for n := 3; n <= 61; n += 2 {
		odd = append(odd, n)
	}
	for n := 2; n <= 59; n++ {
		all = append(all, n)
	}
	if got := moves(t, 64); !slices.Equal(got, odd) {
		t.Errorf("the moves of 64 ends are %v", got)
	}
	if got := moves(t, 61); !slices.Equal(got, all) {
		t.Errorf("the moves of 61 ends are %v", got)
	}
	for ends := 1; ends <= 64; ends++ {
		without := ends <= 4 || ends == 6
		if got := moves(t, ends); (len(got) == 0) != without {
			t.Errorf("the moves of %d ends are %v", ends, got)
		}
	}
}

func TestW2SatinKnown(t *testing.T) {
	for _, x := range []struct {
		ends, move int
		want       api.Truth
	}{
		{5, 2, of("10000", "00100", "00001", "01000", "00010")},
		{5, 3, of("10000", "00010", "01000", "00001", "00100")},
		{7, 3, of("1000000", "0001000", "0000001", "0010000", "0000010", "0100000", "0000100")},
		{8, 3, of("10000000", "00010000", "00000010", "01000000", "00001000", "00000001", "00100000", "00000100")},
		{8, 5, of("10000000", "00000100", "00100000", "00000001", "00001000", "01000000", "00000010", "00010000")},
	} {
		if got := satin(t, x.ends, x.move); !same(got, x.want) {
			t.Errorf("the satin of %d ends by %d is %v, not %v", x.ends, x.move, got, x.want)
		}
	}
}

// TestW2SatinByTheWords: of all ends and all moves, those that are none among them: ErrNone, or the twill of the runs 1 and ends - 1.
func TestW2SatinByTheWords(t *testing.T) {
	for ends := 1; ends <= 64; ends++ {
		can := movesByWords(ends)
		for move := -66; move <= 130; move++ {
			if slices.Contains(can, move) {
				isTwill(t, satin(t, ends, move), []int{1, ends - 1}, move)
			} else if m, err := twill.Satin(ends, move); err != api.ErrNone || !isZero(m) {
				t.Fatalf("the satin of %d ends by %d is %v %d, not ErrNone", ends, move, m, err)
			}
		}
	}
}

// TestW2SatinIsTheTwill: what is told as a satin is told as that twill, and holds once in each row and each column.
func TestW2SatinIsTheTwill(t *testing.T) {
	for ends := 1; ends <= 64; ends++ {
		for _, move := range moves(t, ends) {
			m := satin(t, ends, move)
			if !same(m, made(t, []int{1, ends - 1}, move)) {
				t.Fatalf("the satin of %d ends by %d is not the twill: %v", ends, move, m)
			}
			for line := range ends {
				row := count(m, func(y, x int) bool { return y == line })
				column := count(m, func(y, x int) bool { return x == line })
				if row != 1 || column != 1 {
					t.Fatalf("the satin of %d ends by %d holds %d times in row %d, %d times in that column", ends, move, row, line, column)
				}
			}
		}
	}
}
