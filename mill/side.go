package mill

import (
	"sync"
	"sync/atomic"
)

// sideBySide lets so many goroutines do jobs, by their numbers from 0 on; it answers when none of them does anything any more.
// Each takes the first job that none has taken, so that no two ever do the same one.
func sideBySide(goroutines, jobs int, do func(job int)) {
	var taken atomic.Int64
	next := func() int { return int(taken.Add(1)) - 1 }
	var weavers sync.WaitGroup
	for range goroutines {
		weavers.Go(func() {
			for job := next(); job < jobs; job = next() {
				do(job)
			}
		})
	}
	weavers.Wait()
}
