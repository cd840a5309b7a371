package passes

import (
	"iter"

	"tapestry/api"
)

// work is where loops are to go, and how far apart they may be on their way; nothing is wrong with it.
type work struct {
	to    []int
	slack int
}

// may tells whether the loops may stand so.
func (w work) may(at standing) bool { return mayStand(at[:len(w.to)], w.to, w.slack) }

// isPass tells whether it is one, whatever stands behind it.
func (w work) isPass(p api.Pass) bool {
	return p.By >= -api.MaxBy && p.By <= api.MaxBy && p.By != 0 && p.Which >= 1 && p.Which < 1<<len(w.to)
}

// all are all passes, the one that is to be taken of several that are as good ahead of the others.
func (w work) all() iter.Seq[api.Pass] {
	return func(yield func(api.Pass) bool) {
		for by := -api.MaxBy; by <= api.MaxBy; by++ {
			for which := 1; by != 0 && which < 1<<len(w.to); which++ {
				if !yield(api.Pass{By: by, Which: which}) {
					return
				}
			}
		}
	}
}

// from are all passes that may be done where loops stand so, in the order of all, each with how they stand behind it.
func (w work) from(at standing) iter.Seq2[api.Pass, standing] {
	return func(yield func(api.Pass, standing) bool) {
		for p := range w.all() {
			if next := behind(at, p); w.may(next) && !yield(p, next) {
				return
			}
		}
	}
}

// howFar is how many passes each way to stand is away from the end: of all that are nearer than start, and of start, if there are passes from there.
// It is found from the end on, since each pass can be taken back by one as far the other way.
func (w work) howFar(start standing) map[standing]int {
	end := standingOn(w.to)
	far := map[standing]int{end: 0}
	found := []standing{end}
	for i := 0; i < len(found) && found[i] != start; i++ { // found grows while it is gone through, the nearest ones first
		for _, next := range w.from(found[i]) {
			if _, known := far[next]; !known {
				far[next] = far[found[i]] + 1
				found = append(found, next)
			}
		}
	}
	return far
}

// nearer is the first pass behind which the end is nearer, and how loops stand behind it.
func (w work) nearer(at standing, far map[standing]int) (api.Pass, standing) {
	for p, next := range w.from(at) {
		if left, known := far[next]; known && left < far[at] {
			return p, next
		}
	}
	return api.Pass{}, at
}
