package twill_test

import (
	"testing"

	"tapestry/api"
)

func TestW3EvenKnown(t *testing.T) {
	for _, x := range []struct {
		name string
		m    api.Truth
		want bool
	}{
		{"plain weave", of("10", "01"), true},
		{"two up, two down", of("1100", "0110", "0011", "1001"), true},
		{"none holds", of("000", "000"), true},
		{"each one holds", of("111", "111"), true},
		{"one in each row, two in each column", of("10", "01", "01", "10"), true},
		{"two in each row, one in each column", of("1100", "0011"), true},
		{"not one behind the other, but as many", of("1010", "0110", "1001", "0101"), true},
		{"only the rows", of("10", "10"), false},
		{"only the rows, two each", of("1100", "1010"), false},
		{"only the rows, which are unlike", of("100", "010", "010"), false},
		{"only the columns", of("11", "00"), false},
		{"only the columns, of which two hold", of("111", "000", "111"), false},
		{"only the columns, which are unlike", of("1010", "0100", "0001"), false},
		{"neither", of("11", "10"), false},
		{"neither, one alone", of("100", "000", "000"), false},
		{"neither, all but one", of("111", "111", "110"), false},
		{"rows that are as many at both ends alone", of("110", "100", "011"), false},
		{"columns that are as many at both ends alone", of("101", "101", "010", "010", "010"), false},
		{"one that holds", of("1"), true},
		{"one that doesn't", of("0"), true},
		{"one row whose places are alike", of("11111"), true},
		{"one row of which none holds", of("00000"), true},
		{"one row that is unlike at its end", of("11110"), false},
		{"one row that is unlike at its beginning", of("0111"), false},
		{"one column whose places are alike", of("1", "1", "1"), true},
		{"one column of which none holds", of("0", "0", "0"), true},
		{"one column that is unlike at its end", of("1", "1", "0"), false},
		{"one column that is unlike at its beginning", of("1", "0", "0"), false},
	} {
		t.Run(x.name, func(t *testing.T) { evenIs(t, x.m, x.want) })
	}
}

// TestW3NoBits: where there is no row, or no column, all there are have as many.
func TestW3NoBits(t *testing.T) {
	for n := range 65 {
		evenIs(t, none(n, 0), true)
		evenIs(t, none(0, n), true)
		evenIs(t, api.Truth{Wide: n, Bits: []bool{}}, true)
		evenIs(t, api.Truth{High: n, Bits: nil}, true)
	}
}

// TestW3SmallByTheWords: all truths of few bits.
func TestW3SmallByTheWords(t *testing.T) {
	for wide := 1; wide <= 12; wide++ {
		for high := 1; wide*high <= 12; high++ {
			for n := range 1 << (wide * high) {
				m := truthOf(wide, high, func(row, place int) bool { return n>>(row*wide+place)&1 == 1 })
				evenIs(t, m, evenByWords(m))
			}
		}
	}
}

// striped has in each row one in n, from another place on in each: as many in each row and each column, where n divides both sides.
func striped(wide, high, n int) api.Truth {
	return truthOf(wide, high, func(row, place int) bool { return (row+place)%n == 0 })
}

// TestW3GreatByTheWords: sides up to MaxTruth, even ones and others.
func TestW3GreatByTheWords(t *testing.T) {
	for i, wide := range []int{1, 2, 8, 33, 63, 64} {
		for j, high := range []int{1, 2, 8, 33, 63, 64} {
			evenIs(t, none(wide, high), true)
			evenIs(t, every(wide, high), true)
			for n := 1; n <= 64; n++ {
				m := striped(wide, high, n)
				evenIs(t, m, evenByWords(m))
			}
			for _, oneIn := range []int{2, 3, 20, 200} {
				m := strewn(wide, high, oneIn, 1000*oneIn+10*i+j)
				evenIs(t, m, evenByWords(m))
			}
		}
	}
}

// TestW3StripedIsEven: that the even ones among the great are, without the words.
func TestW3StripedIsEven(t *testing.T) {
	for _, n := range []int{1, 2, 4, 8, 16, 32, 64} {
		for _, wide := range []int{n, 64} {
			for _, high := range []int{n, 64} {
				evenIs(t, striped(wide, high, n), true)
			}
		}
	}
}

// TestW3OneAway: of MaxTruth by MaxTruth that are even, one place changed, wherever it is; one that is moved within its row, so
// that the rows alone have as many, or within its column, so that the columns alone have.
func TestW3OneAway(t *testing.T) {
	for row := range 64 {
		for place := range 64 {
			m := striped(64, 64, 4)
			at, right, down := row*64+place, row*64+(place+1)%64, (row+1)%64*64+place
			m.Bits[at] = !m.Bits[at]
			evenIs(t, m, false)
			m.Bits[at] = !m.Bits[at]
			if !m.Bits[at] {
				continue
			}
			m.Bits[at], m.Bits[right] = false, true
			evenIs(t, m, false)
			m.Bits[right], m.Bits[down] = false, true
			evenIs(t, m, false)
			m.Bits[at], m.Bits[down] = true, false
			evenIs(t, m, true)
		}
	}
}

// TestW3Weaves: each satin is even, each twill by a move of 1; a twill whose move comes back too early need not be.
func TestW3Weaves(t *testing.T) {
	for ends := 2; ends <= 64; ends++ {
		for _, move := range moves(t, ends) {
			evenIs(t, satin(t, ends, move), true)
		}
		evenIs(t, made(t, []int{1, ends - 1}, 1), true)
	}
	evenIs(t, made(t, []int{1, 3}, 2), false)
	evenIs(t, made(t, []int{2, 2}, 2), true)
	for n := 2; n <= 9; n++ {
		for _, runs := range allRuns(2, n) {
			for move := 1; move < n; move++ {
				m := made(t, runs, move)
				evenIs(t, m, evenByWords(m))
			}
		}
	}
}
