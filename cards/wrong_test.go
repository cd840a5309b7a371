package cards_test

import (
	"math"
	"testing"

	"tapestry/api"
	"tapestry/cards"
)

// TestA1WrongTruths: what is wrong with truths is told, and no bytes beside it.
func TestA1WrongTruths(t *testing.T) {
	for _, x := range []struct {
		name string
		m    api.Truth
		want api.Errno
	}{
		{"too wide", none(65, 1), api.ErrRange},
		{"too high", none(1, 65), api.ErrRange},
		{"both", none(65, 65), api.ErrRange},
		{"too wide, no rows", api.Truth{Wide: 65}, api.ErrRange},
		{"too high, no places", api.Truth{High: 65}, api.ErrRange},
		{"below", api.Truth{Wide: -1, High: 1}, api.ErrRange},
		{"height below", api.Truth{Wide: 1, High: -1}, api.ErrRange},
		{"both below, with as many bits as their product", api.Truth{Wide: -2, High: -2, Bits: make([]bool, 4)}, api.ErrRange},
		{"a byte's worth, and as many bits", none(256, 1), api.ErrRange},
		{"least", api.Truth{Wide: math.MinInt, High: 2}, api.ErrRange},
		{"greatest", api.Truth{Wide: math.MaxInt, High: math.MaxInt, Bits: []bool{true}}, api.ErrRange}, // their product wraps round to 1
		{"far out of range", api.Truth{Wide: 1 << 32, High: 1 << 32}, api.ErrRange},                     // their product wraps round to 0
		{"too wide, and bits that don't fit", api.Truth{Wide: 65, High: 1, Bits: make([]bool, 3)}, api.ErrRange},
		{"too high, and no bits", api.Truth{Wide: 1, High: 65}, api.ErrRange},
		{"no bits", api.Truth{Wide: 1, High: 1}, api.ErrFit},
		{"no bits of the greatest", api.Truth{Wide: 64, High: 64, Bits: []bool{}}, api.ErrFit},
		{"a bit too few, with room for it", api.Truth{Wide: 2, High: 2, Bits: make([]bool, 3, 4)}, api.ErrFit},
		{"a bit too many", api.Truth{Wide: 2, High: 2, Bits: make([]bool, 5)}, api.ErrFit},
		{"a row too many", api.Truth{Wide: 2, High: 2, Bits: make([]bool, 6)}, api.ErrFit},
		{"a bit too few of the greatest", api.Truth{Wide: 64, High: 64, Bits: make([]bool, 4095)}, api.ErrFit},
		{"a bit too many of the greatest", api.Truth{Wide: 64, High: 64, Bits: make([]bool, 4097)}, api.ErrFit},
		{"a bit, and no place", api.Truth{Bits: []bool{true}}, api.ErrFit},
		{"a bit, and no row", api.Truth{Wide: 4, Bits: []bool{true}}, api.ErrFit},
		{"a bit, and no column", api.Truth{High: 4, Bits: []bool{true}}, api.ErrFit},
	} {
		t.Run(x.name, func(t *testing.T) {
			if b, err := cards.Pack(x.m); b != "" || err != x.want {
				t.Errorf("%q %d, not %d", b, err, x.want)
			}
		})
	}
}

// TestE3NilIsEmpty: truths without bits, however they are handed in.
func TestE3NilIsEmpty(t *testing.T) {
	for n := range 65 {
		for _, bits := range [][]bool{nil, {}, make([]bool, 0, 64)} {
			if got, want := pack(t, api.Truth{Wide: n, Bits: bits}), deckByWords(none(n, 0)); got != want {
				t.Errorf("no rows of %d places: %q, not %q", n, got, want)
			}
			if got, want := pack(t, api.Truth{High: n, Bits: bits}), deckByWords(none(0, n)); got != want {
				t.Errorf("%d rows of no places: %q, not %q", n, got, want)
			}
		}
	}
}
