package cloth

import (
	"slices"

	"tapestry/api"
	"tapestry/truth"
)

// wrong is what is wrong with a cloth.
func wrong(m api.Truth) api.Errno {
	if err := truth.Wrong(m); err != api.OK {
		return err
	}
	if len(m.Bits) == 0 {
		return api.ErrMany
	}
	return api.OK
}

// crossings tells who lies above whom: neither of two strands that don't cross does.
func crossings(m api.Truth) func(one, other int) bool {
	isEnd := func(strand int) bool { return strand < m.Wide }
	endAbove := func(end, pick int) bool { return m.Bits[(pick-m.Wide)*m.Wide+end] }
	return func(one, other int) bool {
		if isEnd(one) == isEnd(other) {
			return false
		}
		if isEnd(one) {
			return endAbove(one, other)
		}
		return !endAbove(other, one)
	}
}

// over are the strands that are over one of them, rising.
func over(s, strands int, above func(one, other int) bool) []int {
	found := make([]bool, strands)
	found[s] = true
	out := []int{s}
	for next := 0; next < len(out); next++ { // out grows while it is gone through
		for one := range strands {
			if !found[one] && above(one, out[next]) {
				found[one] = true
				out = append(out, one)
			}
		}
	}
	slices.Sort(out)
	return out
}

// sheets are all sheets, by their first strands, each with its strands, rising; of each strand those that are over it are given.
func sheets(overs [][]int) [][]int {
	var out [][]int
	for s := range overs {
		if sheet := sheetOf(s, overs); sheet[0] == s { // once: where it begins
			out = append(out, sheet)
		}
	}
	return out
}

// sheetOf are the strands that are over one, and that one over them. They are a whole sheet, since what is over a strand is over all that it is over.
func sheetOf(s int, overs [][]int) []int {
	var out []int
	for _, one := range overs[s] {
		if slices.Contains(overs[one], s) {
			out = append(out, one)
		}
	}
	return out
}
