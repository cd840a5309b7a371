package fabric

import (
	"slices"

	"tapestry/api"
)

// alongYarns is of each loop the number that it has along the yarns. There are no other carriers, as knitting refuses them.
func alongYarns(loops []api.Loop) []int {
	numbers := make([]int, len(loops))
	next := 0
	for carrier := range api.MaxCarriers {
		for i, loop := range loops {
			if loop.Carrier == carrier {
				numbers[i] = next
				next++
			}
		}
	}
	return numbers
}

// renumbered is what has been knitted, by other numbers of its loops. The lists of k are taken over, and changed.
func renumbered(k api.Knitted, numbers []int) api.Knitted {
	loops := make([]api.Loop, len(k.Loops))
	for i, loop := range k.Loops {
		translate(loop.Through, numbers)
		loops[numbers[i]] = loop
	}
	k.Loops = loops
	translateBed(k.Front, numbers)
	translateBed(k.Back, numbers)
	translate(k.Loose, numbers)
	// What was dropped first is no matter of the cloth.
	slices.Sort(k.Loose)
	return k
}

func translateBed(bed [][]int, numbers []int) {
	for _, held := range bed {
		translate(held, numbers)
	}
}

func translate(list, numbers []int) {
	for i, loop := range list {
		list[i] = numbers[loop]
	}
}
