package cards_test

import (
	"slices"
	"testing"

	"tapestry/api"
)

// known are truths with the bytes that must come of them.
func known() []struct {
	name string
	m    api.Truth
	deck string
} {
	return []struct {
		name string
		m    api.Truth
		deck string
	}{
		{"no ends and no picks", api.Truth{}, "JQ1\x00\x00\x34"}, // the document's example
		{"no rows", none(5, 0), "JQ1\x05\x00\x2f"},
		{"no rows of the widest", none(64, 0), "JQ1\x40\x00\xf4"},
		{"one row of no places", none(0, 1), "JQ1\x00\x01\x01\x32"},
		{"five rows of no places", none(0, 5), "JQ1\x00\x05\x05\x2a"},
		{"the most rows of no places", none(0, 64), "JQ1\x00\x40\x40\xb4"},
		{"one place that holds", of("1"), "JQ1\x01\x01\x01\x80\xb1"},
		{"one place that does not", of("0"), "JQ1\x01\x01\x01\x00\x31"},
		{"two rows alike", of("101", "101"), "JQ1\x03\x02\x02\xa0\x8d"},
		{"two rows unlike", of("10", "01"), "JQ1\x02\x02\x01\x80\x01\x40\x6e"},
		{"the same row again behind another one", of("1", "0", "1"), "JQ1\x01\x03\x01\x80\x01\x00\x01\x80\x2d"},
		{"alike, unlike, and again alike", of("11", "11", "10", "11", "11", "11"), "JQ1\x02\x06\x02\xc0\x01\x80\x03\xc0\x26"},
		{"seven places", of("1000001"), "JQ1\x07\x01\x01\x82\xa9"},
		{"eight places", of("10000001"), "JQ1\x08\x01\x01\x81\xa9"},
		{"nine places", of("100000011", "010000000"), "JQ1\x09\x02\x01\x81\x80\x01\x40\x00\xe6"},
		{"sixteen places", of("1000000000000001"), "JQ1\x10\x01\x01\x80\x01\xa1"},
		{"seventeen places", of("00000000111111111"), "JQ1\x11\x01\x01\x00\xff\x80\xa2"},
	}
}

func TestA1Known(t *testing.T) {
	for _, x := range known() {
		t.Run(x.name, func(t *testing.T) {
			if got := pack(t, x.m); got != x.deck {
				t.Errorf("%q, not %q", got, x.deck)
			}
			unpacksTo(t, x.deck, x.m)
		})
	}
}

// TestA1PartByPart goes through the bytes that Pack makes: the mark, the sides, of each card how many rows it stands for and each of its bits, the last byte.
func TestA1PartByPart(t *testing.T) {
	for _, m := range slices.Concat(small(), great()) {
		b := pack(t, m)
		if b[:3] != "JQ1" || int(b[3]) != m.Wide || int(b[4]) != m.High {
			t.Fatalf("%v begins %q", m, b[:5])
		}
		rows, at := rowTexts(m), 5
		for y := 0; y < m.High; {
			many := int(b[at])
			for as := 1; as < many; as++ {
				if rows[y+as] != rows[y] {
					t.Fatalf("%v: row %d is not as %d", m, y+as, y)
				}
			}
			if many < 1 || y+many < m.High && rows[y+many] == rows[y] {
				t.Fatalf("%v: from row %d on more than %d are as it", m, y, many)
			}
			for x := range (m.Wide + 7) / 8 * 8 {
				if is := b[at+1+x/8]>>(7-x%8)&1 == 1; is != (x < m.Wide && rows[y][x] == '1') {
					t.Fatalf("%v: the card of row %d has %v at %d", m, y, is, x)
				}
			}
			at += 1 + (m.Wide+7)/8
			y += many
		}
		sum := 0
		for _, n := range []byte(b) {
			sum += int(n)
		}
		if len(b) != at+1 || sum%256 != 0 {
			t.Fatalf("%v: %d bytes, not %d, that are together %d", m, len(b), at+1, sum)
		}
	}
}

func TestA1ByTheWords(t *testing.T) {
	for _, m := range slices.Concat(small(), great()) {
		if got, want := pack(t, m), deckByWords(m); got != want {
			t.Fatalf("%v: %q, not %q", m, got, want)
		}
	}
}

// TestA1Greatest: MaxTruth by MaxTruth, all rows alike, and none as the one ahead of it.
func TestA1Greatest(t *testing.T) {
	for _, x := range []struct {
		name string
		m    api.Truth
		want string
	}{
		{"none holds", none(64, 64), head(64, 64) + "\x40" + again("\x00", 8)},
		{"each one holds", every(64, 64), head(64, 64) + "\x40" + again("\xff", 8)},
		{"all rows alike", truthOf(64, 64, func(row, place int) bool { return place%8 == 1 }), head(64, 64) + "\x40" + again("\x40", 8)},
		{"plain weave", plainWeave(64, 64), head(64, 64) + again("\x01"+again("\xaa", 8)+"\x01"+again("\x55", 8), 32)},
		{"by twos", truthOf(64, 64, func(row, place int) bool { return row%4 < 2 }), head(64, 64) + again("\x02"+again("\xff", 8)+"\x02"+again("\x00", 8), 16)},
		{"the last row alone is another one", truthOf(64, 64, func(row, place int) bool { return row == 63 }), head(64, 64) + "\x3f" + again("\x00", 8) + "\x01" + again("\xff", 8)},
		{"the first row alone is another one", truthOf(64, 64, func(row, place int) bool { return row == 0 }), head(64, 64) + "\x01" + again("\xff", 8) + "\x3f" + again("\x00", 8)},
	} {
		t.Run(x.name, func(t *testing.T) {
			if got := pack(t, x.m); got != whole(x.want) {
				t.Errorf("%q, not %q", got, whole(x.want))
			}
			unpacksTo(t, whole(x.want), x.m)
		})
	}
	if got := len(pack(t, unlike(64, 64))); got != 6+64*9 {
		t.Errorf("with no row as another one: %d bytes", got)
	}
}

// TestA1HowManyAreAlike: of MaxTruth rows so many from any one on are another row.
func TestA1HowManyAreAlike(t *testing.T) {
	for from := range 64 {
		for many := 1; from+many <= 64; many++ {
			m := truthOf(3, 64, func(row, place int) bool { return (row >= from && row < from+many) == (place == 1) })
			want := head(3, 64)
			if from > 0 {
				want += bytesOf(byte(from), 0xa0)
			}
			want += bytesOf(byte(many), 0x40)
			if from+many < 64 {
				want += bytesOf(byte(64-from-many), 0xa0)
			}
			if got := pack(t, m); got != whole(want) {
				t.Fatalf("%d from %d on: %q, not %q", many, from, got, whole(want))
			}
		}
	}
}

// TestA1OneHole: each place of each width has a bit of its own; rows that differ in one place alone are not alike.
func TestA1OneHole(t *testing.T) {
	for wide := 1; wide <= 64; wide++ {
		for at := range wide {
			holes := make([]byte, (wide+7)/8)
			holes[at/8] = []byte{128, 64, 32, 16, 8, 4, 2, 1}[at%8]
			blank := again("\x00", len(holes))
			m := truthOf(wide, 4, func(row, place int) bool { return row%2 == 0 && place == at })
			two := "\x01" + string(holes) + "\x01" + blank
			if got := pack(t, m); got != whole(head(byte(wide), 4)+two+two) {
				t.Fatalf("place %d of %d: %q", at, wide, got)
			}
		}
	}
}

// TestA1NoPlaces: rows of no places are one card without holes; where there are no rows, there are no cards.
func TestA1NoPlaces(t *testing.T) {
	for n := range 65 {
		flat := none(n, 0)
		if got := pack(t, flat); got != whole(head(byte(n), 0)) {
			t.Errorf("no rows of %d places: %q", n, got)
		}
		unpacksTo(t, whole(head(byte(n), 0)), flat)
		if n == 0 {
			continue
		}
		thin := none(0, n)
		if got := pack(t, thin); got != whole(head(0, byte(n))+bytesOf(byte(n))) {
			t.Errorf("%d rows of no places: %q", n, got)
		}
		unpacksTo(t, whole(head(0, byte(n))+bytesOf(byte(n))), thin)
	}
}

// TestA1AllLastBytes: among the decks that are held against the words each last byte comes.
func TestA1AllLastBytes(t *testing.T) {
	seen := map[byte]int{}
	for _, m := range slices.Concat(small(), great()) {
		b := pack(t, m)
		seen[b[len(b)-1]]++
	}
	if len(seen) != 256 {
		t.Errorf("%d last bytes", len(seen))
	}
}
