package fabric

import "tapestry/api"

// withoutMisses leaves out what only passes by.
func withoutMisses(l []api.Stitch) []api.Stitch {
	var out []api.Stitch
	for _, x := range l {
		if x.Do != api.StitchMiss {
			out = append(out, x)
		}
	}
	return out
}

// withoutPassedRacks leaves out racks at which nothing is done, as the next stitch is a rack again.
func withoutPassedRacks(l []api.Stitch) []api.Stitch {
	var out []api.Stitch
	for i, x := range l {
		passed := isRack(x) && i+1 < len(l) && isRack(l[i+1])
		if !passed {
			out = append(out, x)
		}
	}
	return out
}

// withoutIdleRacks leaves out racks to the rack that there is.
func withoutIdleRacks(l []api.Stitch) []api.Stitch {
	var out []api.Stitch
	rack := 0
	for _, x := range l {
		if isRack(x) {
			if x.To == rack {
				continue
			}
			rack = x.To
		}
		out = append(out, x)
	}
	return out
}
