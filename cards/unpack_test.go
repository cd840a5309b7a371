package cards_test

import (
	"slices"
	"testing"

	"tapestry/api"
	"tapestry/cards"
)

func TestA2OfWhatPackMakes(t *testing.T) {
	for _, m := range slices.Concat(small(), great()) {
		unpacksTo(t, pack(t, m), m)
	}
}

// faults are bytes with what is wrong with them, and where it must be told.
func faults() []struct {
	name string
	b    string
	at   int
} {
	return []struct {
		name string
		b    string
		at   int
	}{
		{"nothing", "", 0},
		{"another first byte", "X", 0},
		{"another first byte of a deck", "jQ1\x00\x00\x14", 0},
		{"one byte", "J", 1},
		{"another second byte", "JX", 1},
		{"another second byte, then more", "JX1\x00\x00\x2d", 1},
		{"two bytes", "JQ", 2},
		{"another third byte", "JQ2\x00\x00\x33", 2},
		{"no sides", "JQ1", 3},
		{"too wide", "JQ1\x41", 3},
		{"widest of a byte", "JQ1\xff\x00", 3},
		{"too wide, the last byte right", whole(head(65, 0)), 3},
		{"no height", "JQ1\x40", 4},
		{"too high", "JQ1\x00\x41", 4},
		{"highest of a byte", "JQ1\x01\xff", 4},
		{"too high, a card and the last byte right", whole(head(0, 65) + "\x41"), 4},
		{"no card", "JQ1\x01\x01", 5},
		{"no last byte, where there are no rows", "JQ1\x09\x00", 5},
		{"a card for no rows, without holes", "JQ1\x01\x02\x00", 5},
		{"a card for no rows", whole(head(1, 2) + "\x00\x80\x02\x80"), 5},
		{"a card for no rows, of no places", whole(head(0, 1) + "\x00"), 5},
		{"a card for no rows, the second one", whole(head(1, 2) + "\x01\x80\x00\x00\x01\x00"), 7},
		{"a card for more rows, without holes", "JQ1\x01\x02\x03", 5},
		{"a card for more rows", whole(head(1, 2) + "\x03\x80"), 5},
		{"a card for one row more than are left", whole(head(1, 3) + "\x02\x80\x02\x00"), 7},
		{"a card for all rows, behind another one", whole(head(1, 64) + "\x01\x80\x40\x00"), 7},
		{"a card for the most rows of a byte", whole(head(1, 64) + "\xff\x80"), 5},
		{"a card for more rows, of no places", whole(head(0, 5) + "\x06"), 5},
		{"a card for fewer rows, of no places", whole(head(0, 5) + "\x04"), 6},
		{"a card for fewer rows, of no places, and no more bytes", head(0, 5) + "\x04", 6},
		{"two cards of no places", whole(head(0, 5) + "\x04\x01"), 6},
		{"no holes", "JQ1\x01\x01\x01", 6},
		{"no holes of the second card", head(1, 2) + "\x01\x80\x01", 8},
		{"one byte of holes too few", head(9, 1) + "\x01\xff", 7},
		{"one byte of holes too few, the second card's, as yet as those ahead", head(9, 2) + "\x01\xff\x80\x01\xff", 10},
		{"seven bytes of holes of eight", head(64, 1) + "\x01" + again("\xaa", 7), 13},
		{"a hole behind the only place", whole(head(1, 1) + "\x01\xc0"), 5},
		{"a hole at the end of the byte", whole(head(1, 1) + "\x01\x81"), 5},
		{"a hole behind seven places", whole(head(7, 1) + "\x01\xff"), 5},
		{"a hole behind nine places", whole(head(9, 1) + "\x01\xff\xc0"), 5},
		{"a hole behind the places of the second card", whole(head(3, 3) + "\x02\xa0\x01\x50"), 7},
		{"a hole behind the places, no last byte", head(1, 1) + "\x01\x40", 5},
		{"a card as the one ahead of it", whole(head(1, 2) + "\x01\x80\x01\x80"), 7},
		{"a card as the one ahead of it, no last byte", head(1, 2) + "\x01\x80\x01\x80", 7},
		{"a card as the one ahead of it, which stands for several", whole(head(8, 5) + "\x02\x81\x03\x81"), 7},
		{"a third card as the second one", whole(head(1, 3) + "\x01\x80\x01\x00\x01\x00"), 9},
		{"a card without holes as the one ahead of it", whole(head(2, 2) + "\x01\x00\x01\x00"), 7},
		{"no last byte", "JQ1\x00\x00", 5},
		{"no last byte behind a card", head(8, 1) + "\x01\x55", 7},
		{"another last byte", "JQ1\x00\x00\x35", 5},
		{"another last byte behind a card", "JQ1\x03\x02\x02\xa0\x8c", 7},
		{"a byte behind the last one", "JQ1\x00\x00\x34\x00", 6},
		{"bytes behind the last one", "JQ1\x03\x02\x02\xa0\x8dxyz", 8},
		{"a deck behind a deck", "JQ1\x00\x00\x34JQ1\x00\x00\x34", 6},
	}
}

func TestA2Faults(t *testing.T) {
	for _, x := range faults() {
		t.Run(x.name, func(t *testing.T) { isWrong(t, x.b, x.at) })
	}
}

// TestA2WhichIsTold: of several faults the one at the first byte with which they cannot go on.
func TestA2WhichIsTold(t *testing.T) {
	for _, x := range []struct {
		name string
		b    string
		at   int
	}{
		{"all of the mark", "XYZ", 0},
		{"the mark, and both sides", "JQ2\x41\x41", 2},
		{"both sides", "JQ1\x41\x41", 3},
		{"too wide, and too early an end", "JQ1\xff", 3},
		{"too high, and a card for no rows", "JQ1\x01\x41\x00", 4},
		{"a card for more rows, and other holes", whole(head(1, 1) + "\x02\xff"), 5},
		{"a card for no rows, and other holes", whole(head(1, 1) + "\x00\xff"), 5},
		{"other holes, and another last byte", head(1, 1) + "\x01\xff\x00", 5},
		{"other holes, and bytes behind the last one", whole(head(1, 1)+"\x01\xff") + "x", 5},
		{"other holes, and a card as the one ahead of it", whole(head(1, 3) + "\x01\xff\x01\xff\x01\x00"), 5},
		{"holes as those ahead but behind the places", whole(head(1, 2) + "\x01\x80\x01\x81"), 7},
		{"a card as the one ahead of it, for more rows", whole(head(1, 2) + "\x01\x80\x02\x80"), 7},
		{"a card as the one ahead of it, for no rows", whole(head(1, 2) + "\x01\x80\x00\x80"), 7},
		{"a card as the one ahead of it, and another one for more rows", whole(head(1, 3) + "\x01\x80\x01\x80\x09\x00"), 7},
		{"a card for more rows, and too early an end", head(9, 2) + "\x03\xff", 5},
		{"a card for no rows, and too early an end", head(9, 2) + "\x00\xff", 5},
		{"a second card for more rows, without holes", head(9, 2) + "\x01\xff\x80\x02", 8},
		{"a card as the one ahead of it, and another last byte", head(1, 2) + "\x01\x80\x01\x80\x00", 7},
		{"another last byte, and one behind it", "JQ1\x00\x00\x35\x35", 5},
		{"another last byte, and one behind it that makes the sum whole", "JQ1\x00\x00\x33\x01", 5},
	} {
		t.Run(x.name, func(t *testing.T) { isWrong(t, x.b, x.at) })
	}
}

// chosen are decks to be made wrong: some of each part, and the greatest.
func chosen(t *testing.T) []string {
	t.Helper()
	var out []string
	for _, x := range known() {
		out = append(out, x.deck)
	}
	for _, m := range []api.Truth{strewn(12, 9, 2, 1), strewn(24, 20, 3, 2), strewn(7, 30, 2, 3), strewn(1, 64, 2, 4), strewn(33, 5, 9, 5), every(64, 64), none(64, 64), unlike(64, 20)} {
		out = append(out, pack(t, m))
	}
	return out
}

// TestA2EndsTooEarly: a deck that ends at any place ahead of its end can't go on at as many bytes as there are.
func TestA2EndsTooEarly(t *testing.T) {
	greatest := []string{pack(t, unlike(64, 64)), pack(t, plainWeave(64, 64)), pack(t, plainWeave(63, 64))}
	for _, b := range slices.Concat(chosen(t), greatest) {
		for end := range len(b) {
			isWrong(t, b[:end], end)
		}
	}
	for _, m := range small() {
		b := pack(t, m)
		for end := range len(b) {
			isWrong(t, b[:end], end)
		}
	}
}

// TestA2Behind: whatever comes behind a deck is wrong at its first byte.
func TestA2Behind(t *testing.T) {
	for _, b := range chosen(t) {
		for n := range 256 {
			isWrong(t, b+bytesOf(byte(n)), len(b))
		}
		isWrong(t, b+b, len(b))
		isWrong(t, b+again("\x00", 100000), len(b))
	}
}

// TestA2LastByte: each other last byte is wrong, at it.
func TestA2LastByte(t *testing.T) {
	for _, b := range append(chosen(t), pack(t, unlike(64, 64))) {
		last := len(b) - 1
		for n := range 256 {
			if byte(n) != b[last] {
				isWrong(t, with(b, last, byte(n)), last)
				isWrong(t, with(b, last, byte(n))+"x", last)
			}
		}
	}
}

// TestA2OneByteWrong: one byte of a deck wrong, whichever and however, is seen, where it must be.
func TestA2OneByteWrong(t *testing.T) {
	for _, b := range chosen(t) {
		for at := range len(b) {
			for n := range 256 {
				if byte(n) == b[at] {
					continue
				}
				wrong := with(b, at, byte(n))
				if _, fault := cards.Unpack(wrong); fault.Err != api.ErrForm {
					t.Fatalf("%q: byte %d of %q is not seen", wrong, at, b)
				}
				isAsWords(t, wrong)
			}
		}
	}
}

// TestA2OneByteWrongOfTheGreatest: likewise of the longest deck of all, with one bit wrong, or all of them.
func TestA2OneByteWrongOfTheGreatest(t *testing.T) {
	b := pack(t, unlike(64, 64))
	for at := range len(b) {
		for _, change := range []byte{1, 2, 4, 8, 16, 32, 64, 128, 255} {
			wrong := with(b, at, b[at]^change)
			if _, fault := cards.Unpack(wrong); fault.Err != api.ErrForm {
				t.Fatalf("%q: byte %d is not seen", wrong, at)
			}
			isAsWords(t, wrong)
		}
	}
}

// TestA2SumRight: one byte wrong, and the last one made anew, so that nothing but that byte tells the fault, if there is one.
func TestA2SumRight(t *testing.T) {
	right, wrong := 0, 0
	for _, b := range chosen(t) {
		for at := range len(b) - 1 {
			for n := range 256 {
				other := rebalanced(with(b, at, byte(n)))
				isAsWords(t, other)
				if _, is := faultByWords(other); is {
					wrong++
				} else {
					right++
				}
			}
		}
	}
	if right < 1000 || wrong < 1000 {
		t.Errorf("%d right, %d wrong", right, wrong)
	}
}

// TestA2HolesBehindThePlaces: of each width each bit behind its places, in the first card and in the last one.
func TestA2HolesBehindThePlaces(t *testing.T) {
	for wide := 1; wide <= 64; wide++ {
		m := plainWeave(wide, 3)
		b := pack(t, m)
		size := 1 + (wide+7)/8
		for card := range 3 {
			from := 5 + card*size
			end := from + size - 1
			for x := wide; x%8 != 0; x++ {
				isWrong(t, rebalanced(with(b, end, b[end]|128>>(x%8))), from)
			}
		}
	}
}

// TestA2AsTheOneAhead: a card, for as many rows as one likes, cut in two, wherever it stands.
func TestA2AsTheOneAhead(t *testing.T) {
	for _, wide := range []int{0, 1, 7, 8, 9, 64} {
		for many := 2; many <= 64; many++ {
			for first := 1; first < many; first++ {
				holes := again("\x80", min(wide, 1)) + again("\x00", (wide+7)/8-min(wide, 1))
				one, two := bytesOf(byte(first))+holes, bytesOf(byte(many-first))+holes
				isWrong(t, whole(head(byte(wide), byte(many))+one+two), 5+len(one))
				if wide > 0 && many < 64 {
					other := "\x01" + again("\x00", len(holes))
					isWrong(t, whole(head(byte(wide), byte(many+1))+other+one+two), 5+2*len(one))
				}
			}
		}
	}
}

// TestA2HowManyRows: a card for no rows, or for more than are left, wherever it stands; for just as many as are left it is right.
func TestA2HowManyRows(t *testing.T) {
	for high := 2; high <= 64; high++ {
		for first := 1; first < high; first++ {
			for n := range 256 {
				b := whole(head(2, byte(high)) + bytesOf(byte(first), 0x40, byte(n), 0xc0))
				switch {
				case n == 0 || n > high-first:
					isWrong(t, b, 7)
				case n == high-first:
					unpacksTo(t, b, truthOf(2, high, func(row, place int) bool { return row >= first || place == 1 }))
				}
			}
		}
	}
}

// TestA2Sides: each byte of a side, the other one as wide as it may be.
func TestA2Sides(t *testing.T) {
	for n := range 256 {
		wide, high := whole(head(byte(n), 0)), whole(head(0, byte(n))+bytesOf(byte(n)))
		switch {
		case n == 0:
			unpacksTo(t, wide, api.Truth{})
		case n <= 64:
			unpacksTo(t, wide, none(n, 0))
			unpacksTo(t, high, none(0, n))
		default:
			isWrong(t, wide, 3)
			isWrong(t, head(byte(n), 64), 3)
			isWrong(t, high, 4)
			isWrong(t, head(64, byte(n)), 4)
		}
	}
}
