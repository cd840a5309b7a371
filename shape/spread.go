package shape

import "tapestry/api"

// within tells whether a number is one from least to greatest.
func within(n, least, greatest int) bool { return least <= n && n <= greatest }

// canSpread tells whether there may be so many places, and so many marks among them.
func canSpread(total, marks int) bool {
	return within(total, 1, api.MaxSpread) && within(marks, 0, total)
}

// marksBelow is how many marks stand at places below this one. Mark i does where (2 i + 1) total < 2 marks place, as what is rounded
// down is below a whole number where it was ahead of rounding; so there are (2 marks place - total) / (2 total) of them, rounded up.
func marksBelow(total, marks, place int) int {
	return (2*marks*place + total - 1) / (2 * total)
}
