package twill

import "tapestry/api"

// wrongRuns is what is wrong with runs. That there are few of them, and none is long, is asked first, so that their sum can't wrap round.
func wrongRuns(runs []int) api.Errno {
	if len(runs) == 0 || len(runs)%2 != 0 || len(runs) > api.MaxRuns {
		return api.ErrMany
	}
	sum := 0
	for _, run := range runs {
		if run < 1 || run > api.MaxTruth {
			return api.ErrRange
		}
		sum += run
	}
	if sum > api.MaxTruth {
		return api.ErrMuch
	}
	return api.OK
}

// firstPick is the pick that the runs say: the ends of the first one are up, those of the second one down, and so on.
func firstPick(runs []int) []bool {
	var out []bool
	for i, run := range runs {
		for range run {
			out = append(out, i%2 == 0)
		}
	}
	return out
}

// woven has as many picks as ends: the one that is given, and each other one moved so far to the right of the one ahead of it.
func woven(pick []bool, move int) api.Truth {
	n := len(pick)
	bits := make([]bool, n*n)
	for y := range n {
		for x, up := range pick {
			bits[y*n+(x+y*move)%n] = up
		}
	}
	return api.Truth{Wide: n, High: n, Bits: bits}
}

// divisor is the greatest one that both have, neither of which is below 0.
func divisor(a, b int) int {
	for b != 0 {
		a, b = b, a%b
	}
	return a
}

// allSame holds of a list without numbers too.
func allSame(numbers []int) bool {
	for _, n := range numbers {
		if n != numbers[0] {
			return false
		}
	}
	return true
}
