package chart

import "tapestry/api"

// signGroup is a run of colours whose signs are one behind the other: the first colour, its sign, and how many there are.
type signGroup struct {
	colour int
	sign   rune
	many   int
}

// groups has the letters of Greek twice, as a sigma that ends a word stands in their midst and is no sign.
var groups = [...]signGroup{
	{0, 0x00B7, 1},
	{1, 0x2588, 1},
	{2, '0', 10},
	{12, 0x03B1, 17}, // alpha to rho
	{29, 0x03C3, 7},  // sigma to omega
	{36, 'a', 26},
}

const (
	squareSign = 0x25A1
	hexSign    = 0x25B3
)

// gridSign is how a grid is written.
func gridSign(grid int) rune {
	if grid == api.Hex {
		return hexSign
	}
	return squareSign
}

// gridOf is the grid that a sign stands for (0: none).
func gridOf(sign rune) int {
	switch sign {
	case squareSign:
		return api.Square
	case hexSign:
		return api.Hex
	}
	return 0
}
