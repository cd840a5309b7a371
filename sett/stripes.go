package sett

import "tapestry/api"

func isNoColour(n int) bool { return n < 0 || n >= api.MaxColour }

// isBeyond tells whether a stripe is beyond its bounds.
func isBeyond(s api.Stripe) bool {
	return isNoColour(s.Colour) || s.Count < 1 || s.Count > api.MaxThreads
}

// once is the stripes of a sett that comes once: with Pivot there and back, where the first one belongs to the next time.
func once(s api.Sett) []api.Stripe {
	var out []api.Stripe
	out = append(out, s.Stripes...)
	if s.Pivot {
		for i := len(s.Stripes) - 2; i > 0; i-- {
			out = append(out, s.Stripes[i])
		}
	}
	return out
}

// runsOf are threads as stripes, each as long as its colour goes on.
func runsOf(threads []int) []api.Stripe {
	var out []api.Stripe
	for _, colour := range threads {
		last := len(out) - 1
		if last >= 0 && out[last].Colour == colour {
			out[last].Count++
		} else {
			out = append(out, api.Stripe{Colour: colour, Count: 1})
		}
	}
	return out
}

// folded is the sett of runs.
func folded(runs []api.Stripe) api.Sett {
	if goBack(runs) {
		return api.Sett{Pivot: true, Stripes: runs[:len(runs)/2+1]}
	}
	return api.Sett{Stripes: runs}
}

// goBack tells whether runs go there and back: of an even number the one in the middle, and the first one, come once.
func goBack(runs []api.Stripe) bool {
	n := len(runs)
	if n == 0 || n%2 != 0 {
		return false
	}
	for i := 1; i < n; i++ {
		if runs[i] != runs[n-i] {
			return false
		}
	}
	return true
}
