package draft

import "tapestry/api"

func isCount(threads int) bool { return threads > 0 && threads <= api.MaxTruth }

func allBelow(numbers []int, bound int) bool {
	for _, n := range numbers {
		if n < 0 || n >= bound {
			return false
		}
	}
	return true
}

// firsts are the places at which each number stands first. It leans on the numbers being told from 0 on as they come:
// a new one is how many there are ahead of it.
func firsts(numbers []int) []int {
	var out []int
	for at, n := range numbers {
		if n == len(out) {
			out = append(out, at)
		}
	}
	return out
}

func holds(m api.Truth, y, x int) bool { return m.Bits[y*m.Wide+x] }

// made are new truths: what stands in row y at place x the word tells.
func made(wide, high int, word func(y, x int) bool) api.Truth {
	bits := make([]bool, 0, wide*high)
	for y := range high {
		for x := range wide {
			bits = append(bits, word(y, x))
		}
	}
	return api.Truth{Wide: wide, High: high, Bits: bits}
}
