package cards_test

import (
	"testing"

	"tapestry/api"
)

// beginnings are all beginnings of decks so wide and so high, up to the whole ones.
func beginnings(wide, high int) map[string]int {
	out := map[string]int{}
	for n := range 1 << (wide * high) {
		b := deckByWords(truthOf(wide, high, func(row, place int) bool { return n>>(row*wide+place)&1 == 1 }))
		for end := range len(b) + 1 {
			out[b[:end]]++
		}
	}
	return out
}

// cardOf is where the card begins to which a byte belongs; what stands ahead of the cards, or behind them, is where it is. Up to the byte nothing is wrong.
func cardOf(b string, at int) int {
	size, left := 1+(int(b[3])+7)/8, int(b[4])
	for from := 5; left > 0; from += size {
		if at < from+size {
			return from
		}
		left -= int(b[from])
	}
	return at
}

// isAsAllDecks holds bytes against all decks there are: they are right up to where no deck goes on as they do.
func isAsAllDecks(t *testing.T, decks map[string]int, b string) {
	t.Helper()
	at := len(b)
	for decks[b[:at]] == 0 {
		at--
	}
	switch {
	case at < len(b):
		isWrong(t, b, cardOf(b, at))
	case isDeck(b):
		isAsWords(t, b)
	default:
		isWrong(t, b, len(b))
	}
}

// isDeck tells whether a beginning of decks is a whole one.
func isDeck(b string) bool {
	_, wrong := faultByWords(b)
	return !wrong
}

// tails are all texts of some bytes, of up to so many.
func tails(signs []byte, most int) []string {
	out := []string{""}
	from := 0
	for range most {
		end := len(out)
		for _, s := range out[from:end] {
			for _, b := range signs {
				out = append(out, s+bytesOf(b))
			}
		}
		from = end
	}
	return out
}

// TestA2CannotGoOn: bytes of all kinds behind a beginning, with and without a right last byte, held against all decks with these sides.
func TestA2CannotGoOn(t *testing.T) {
	for _, x := range []struct {
		wide, high, most int
		signs            []byte
	}{
		{1, 0, 2, []byte{0, 1, 0x33, 0x80}},
		{1, 1, 4, []byte{0, 1, 2, 0x31, 0x40, 0x80, 0xb1}},
		{1, 2, 5, []byte{0, 1, 2, 3, 0x80, 0x81, 0x7e}},
		{1, 3, 6, []byte{0, 1, 2, 3, 0x80, 0xc0}},
		{2, 3, 6, []byte{0, 1, 2, 0x40, 0xc0, 0xe0}},
		{8, 1, 4, []byte{0, 1, 2, 0x80, 0xaa, 0xff}},
		{9, 1, 5, []byte{0, 1, 2, 0x80, 0x40, 0xff}},
		{10, 1, 5, []byte{0, 1, 0x80, 0xc0, 0x20, 0xff}},
		{4, 2, 5, []byte{0, 1, 2, 0x10, 0xf0, 0x08, 0xff}},
		{3, 3, 6, []byte{0, 1, 2, 3, 0x20, 0xe0}},
	} {
		decks := beginnings(x.wide, x.high)
		for _, tail := range tails(x.signs, x.most) {
			b := head(byte(x.wide), byte(x.high)) + tail
			isAsAllDecks(t, decks, b)
			isAsAllDecks(t, decks, whole(b))
			isAsAllDecks(t, decks, whole(b)+"\x00")
		}
	}
}

// TestA2StrewnBytes: bytes without order, and decks of which several bytes are others, are answered as the promises say, whatever they are.
func TestA2StrewnBytes(t *testing.T) {
	next := strew(9)
	for seed := range 20000 {
		var l []byte
		for range next(40) {
			l = append(l, byte(next(256)))
		}
		isAsWords(t, string(l))
		isAsWords(t, "JQ1"+string(l))
		isAsWords(t, whole(head(byte(next(66)), byte(next(66)))+string(l)))
		b := pack(t, strewn(next(65), next(20), 1+next(5), seed))
		for range 1 + next(3) {
			b = with(b, next(len(b)), byte(next(256)))
		}
		isAsWords(t, b)
		isAsWords(t, rebalanced(b))
	}
}

// TestA2TwoBytesWrong: two bytes of a small deck wrong at once, at all pairs of places.
func TestA2TwoBytesWrong(t *testing.T) {
	for _, m := range []api.Truth{of("10", "01", "01"), of("1", "0", "1"), of("100000011", "010000000"), none(0, 3)} {
		b := pack(t, m)
		for one := range len(b) {
			for other := one + 1; other < len(b); other++ {
				for _, n := range []byte{0, 1, 2, 3, 0x40, 0x80, 0xc0, 0xff} {
					for _, k := range []byte{0, 1, 2, 3, 0x40, 0x80, 0xc0, 0xff} {
						isAsWords(t, with(with(b, one, n), other, k))
						isAsWords(t, with(with(b, one, b[one]+n), other, b[other]-n)) // the sum stays
					}
				}
			}
		}
	}
}
