package cards

import (
	"slices"

	"tapestry/api"
)

// mark is what all decks begin with.
const mark = "JQ1"

// rowOf is the row y of truths, in their own memory.
func rowOf(m api.Truth, y int) []bool { return m.Bits[y*m.Wide : (y+1)*m.Wide] }

// isAsAhead tells whether a row is as the one ahead of it; the first one has none ahead.
func isAsAhead(m api.Truth, y int) bool {
	return y > 0 && slices.Equal(rowOf(m, y), rowOf(m, y-1))
}

// rowsFrom is how many rows, from one on, are as it.
func rowsFrom(m api.Truth, y int) int {
	many := 1
	for y+many < m.High && isAsAhead(m, y+many) {
		many++
	}
	return many
}

// bytesOf is how many bytes the holes of so many places take.
func bytesOf(wide int) int { return (wide + 7) / 8 }

// hole is the bit of a place within its byte.
func hole(x int) byte { return 0x80 >> (x % 8) }

// punched is the holes of a row.
func punched(row []bool) string {
	holes := make([]byte, bytesOf(len(row)))
	for x, holds := range row {
		if holds {
			holes[x/8] |= hole(x)
		}
	}
	return string(holes)
}

// unpunched is a row, so wide, of its holes; those behind its places are not looked at.
func unpunched(holes string, wide int) []bool {
	row := make([]bool, wide)
	for x := range wide {
		row[x] = holes[x/8]&hole(x) != 0
	}
	return row
}

// balance is the byte with which bytes are together a multiple of 256.
func balance(bytes string) byte {
	var sum byte // it wraps round at 256, so that no more of the sum is kept than is asked for
	for i := range len(bytes) {
		sum += bytes[i]
	}
	return -sum
}
