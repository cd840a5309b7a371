package cards_test

import (
	"slices"
	"strconv"
	"strings"
	"testing"

	"tapestry/api"
	"tapestry/cards"
)

// What the promises say, in their own words, and truths to hold them against.

// truthOf are truths whose places a word tells.
func truthOf(wide, high int, word func(row, place int) bool) api.Truth {
	m := api.Truth{Wide: wide, High: high, Bits: make([]bool, wide*high)}
	for i := range m.Bits {
		m.Bits[i] = word(i/wide, i%wide)
	}
	return m
}

// of are truths written down, a text a row.
func of(rows ...string) api.Truth {
	return truthOf(len(rows[0]), len(rows), func(row, place int) bool { return rows[row][place] == '1' })
}

func none(wide, high int) api.Truth {
	return truthOf(wide, high, func(row, place int) bool { return false })
}

func every(wide, high int) api.Truth {
	return truthOf(wide, high, func(row, place int) bool { return true })
}

func plainWeave(wide, high int) api.Truth {
	return truthOf(wide, high, func(row, place int) bool { return (row+place)%2 == 0 })
}

// unlike are truths of which no row is as another one, if they are no higher than wide.
func unlike(wide, high int) api.Truth {
	return truthOf(wide, high, func(row, place int) bool { return place == row || place < 8 && row>>place&1 == 1 })
}

// strew makes numbers without order; each seed makes others.
func strew(seed int) func(below int) int {
	s := uint32(seed)*2654435761 + 12345
	return func(below int) int {
		s = s*1664525 + 1013904223
		return int(s>>16) % below
	}
}

// strewn are truths without order, of which each row but the first one is in one of so many cases as the one ahead of it.
func strewn(wide, high, oneIn, seed int) api.Truth {
	next := strew(seed)
	m := api.Truth{Wide: wide, High: high}
	for y := range high {
		if y > 0 && next(oneIn) == 0 {
			m.Bits = append(m.Bits, m.Bits[(y-1)*wide:]...)
			continue
		}
		for range wide {
			m.Bits = append(m.Bits, next(2) == 0)
		}
	}
	return m
}

// small are all truths with few bits, those without any too.
func small() []api.Truth {
	var out []api.Truth
	for wide := range 13 {
		for high := range 13 {
			if wide*high > 10 && (wide*high > 12 || wide+high > 8) {
				continue
			}
			for n := range 1 << (wide * high) {
				out = append(out, truthOf(wide, high, func(row, place int) bool { return n>>(row*wide+place)&1 == 1 }))
			}
		}
	}
	return out
}

// great are truths of all widths, with sides up to the greatest.
func great() []api.Truth {
	var out []api.Truth
	for wide := range 65 {
		for _, high := range []int{0, 1, 2, 3, 17, 63, 64} {
			out = append(out, none(wide, high), every(wide, high), plainWeave(wide, high), unlike(wide, high))
			for _, oneIn := range []int{2, 5, 100} {
				out = append(out, strewn(wide, high, oneIn, 100*wide+high+oneIn))
			}
		}
	}
	return out
}

// rowTexts are the rows, each as a text of 0 and 1.
func rowTexts(m api.Truth) []string {
	out := make([]string, m.High)
	for i, holds := range m.Bits {
		if holds {
			out[i/m.Wide] += "1"
		} else {
			out[i/m.Wide] += "0"
		}
	}
	return out
}

// holesByWords is A1: eight places to a byte, the first one the highest bit, 0 where there are no more.
func holesByWords(row string) string {
	for len(row)%8 != 0 {
		row += "0"
	}
	var out []byte
	for eight := range slices.Chunk([]byte(row), 8) {
		n, err := strconv.ParseUint(string(eight), 2, 8)
		if err != nil {
			panic(err)
		}
		out = append(out, byte(n))
	}
	return string(out)
}

// whole adds the last byte: all bytes are with it together a multiple of 256.
func whole(bytes string) string {
	sum := 0
	for _, b := range []byte(bytes) {
		sum += int(b)
	}
	last := 0
	for (sum+last)%256 != 0 {
		last++
	}
	return bytes + string([]byte{byte(last)})
}

// deckByWords is A1.
func deckByWords(m api.Truth) string {
	out := "JQ1" + string([]byte{byte(m.Wide), byte(m.High)})
	rows := rowTexts(m)
	for len(rows) > 0 {
		as := 0
		for as < len(rows) && rows[as] == rows[0] {
			as++
		}
		out += string([]byte{byte(as)}) + holesByWords(rows[0])
		rows = rows[as:]
	}
	return whole(out)
}

// faultByWords is A2: where a deck cannot go on, and whether there is such a place.
func faultByWords(b string) (at int, wrong bool) {
	for i, want := range []byte("JQ1") {
		if i == len(b) || b[i] != want {
			return i, true
		}
	}
	for i := 3; i < 5; i++ {
		if i == len(b) || b[i] > 64 {
			return i, true
		}
	}
	wide, left := int(b[3]), int(b[4])
	size := 1 + (wide+7)/8
	at = 5
	for ahead := ""; left > 0; ahead = b[at-size : at] {
		rest := b[at:]
		if rest == "" || rest[0] == 0 || int(rest[0]) > left {
			return at, true
		}
		if len(rest) < size {
			return len(b), true
		}
		spare := (size-1)*8 - wide
		if spare > 0 && rest[size-1]<<(8-spare) != 0 {
			return at, true
		}
		if ahead != "" && ahead[1:] == rest[1:size] {
			return at, true
		}
		left -= int(rest[0])
		at += size
	}
	if at == len(b) || whole(b[:at]) != b[:at+1] {
		return at, true
	}
	return at + 1, len(b) > at+1
}

func same(one, other api.Truth) bool {
	return one.Wide == other.Wide && one.High == other.High && slices.Equal(one.Bits, other.Bits)
}

// pack is the deck of truths, where there must be one.
func pack(t *testing.T, m api.Truth) string {
	t.Helper()
	b, err := cards.Pack(m)
	if err != api.OK {
		t.Fatalf("%v: %d", m, err)
	}
	return b
}

// unpacksTo: the truths of a deck, and nothing wrong.
func unpacksTo(t *testing.T, b string, want api.Truth) {
	t.Helper()
	m, fault := cards.Unpack(b)
	if fault != (api.Fault{}) || !same(m, want) {
		t.Fatalf("%q: %v %v, not %v", b, m, fault, want)
	}
}

// isWrong: bytes with a fault at one of them, and nothing beside it.
func isWrong(t *testing.T, b string, at int) {
	t.Helper()
	m, fault := cards.Unpack(b)
	if fault != (api.Fault{Err: api.ErrForm, At: at}) {
		t.Fatalf("%q: %v, not at %d", b, fault, at)
	}
	if m.Wide != 0 || m.High != 0 || len(m.Bits) != 0 {
		t.Fatalf("%q: beside a fault %v", b, m)
	}
}

// isAsWords holds what comes of bytes, whatever they are, against the promises: a fault where it must be, or truths of which just these bytes are made.
func isAsWords(t *testing.T, b string) {
	t.Helper()
	if at, wrong := faultByWords(b); wrong {
		isWrong(t, b, at)
		return
	}
	m, fault := cards.Unpack(b)
	if fault != (api.Fault{}) || len(m.Bits) != m.Wide*m.High || deckByWords(m) != b {
		t.Fatalf("%q: %v %v", b, m, fault)
	}
}

// with is a deck of which one byte is another one.
func with(b string, at int, n byte) string { return b[:at] + string([]byte{n}) + b[at+1:] }

// rebalanced is a deck whose last byte is made anew.
func rebalanced(b string) string { return whole(b[:len(b)-1]) }

// bytesOf writes bytes down.
func bytesOf(l ...byte) string { return string(l) }

// head is the beginning of a deck.
func head(wide, high byte) string { return "JQ1" + bytesOf(wide, high) }

// again is a text, over and over.
func again(s string, n int) string { return strings.Repeat(s, n) }
