package mill

import (
	"slices"
	"testing"
	"time"

	"tapestry/api"
)

// workshop is goroutines that are held at their jobs: each tells which one it has begun, and goes on when it may.
type workshop struct {
	begun chan int
	goOn  chan bool
	ended chan bool
}

func opened(looms, jobs int) workshop {
	w := workshop{make(chan int), make(chan bool), make(chan bool)}
	go func() {
		sideBySide(looms, jobs, func(job int) {
			w.begun <- job
			<-w.goOn
		})
		close(w.ended)
	}()
	return w
}

// next is the next job that is begun.
func (w workshop) next(t *testing.T) int {
	t.Helper()
	select {
	case job := <-w.begun:
		return job
	case <-w.ended:
		t.Fatal("it ended, though there are jobs left")
	case <-time.After(time.Minute):
		t.Fatal("no job is begun, though a loom is free")
	}
	return -1
}

// rests: nothing is begun while all are held, nor does the call answer.
func (w workshop) rests(t *testing.T) {
	t.Helper()
	select {
	case job := <-w.begun:
		t.Fatalf("job %d is begun, and no loom is free", job)
	case <-w.ended:
		t.Fatal("it ended, though jobs are not done")
	case <-time.After(time.Millisecond):
	}
}

// letOn lets one of those that are held go on.
func (w workshop) letOn(t *testing.T) {
	t.Helper()
	select {
	case w.goOn <- true:
	case <-time.After(time.Minute):
		t.Fatal("nobody waits")
	}
}

// closes: it answers, and no job is begun any more.
func (w workshop) closes(t *testing.T) {
	t.Helper()
	select {
	case <-w.ended:
	case job := <-w.begun:
		t.Fatalf("job %d is begun, and there is none", job)
	case <-time.After(time.Minute):
		t.Fatal("it does not end")
	}
}

// TestM2AtTheSameTime: as many jobs as there are looms are done at the same time, the first ones; whoever is free takes the first one that none has taken; the call answers when all are done, and not earlier.
func TestM2AtTheSameTime(t *testing.T) {
	for looms := 1; looms <= api.MaxLooms; looms++ {
		for _, jobs := range []int{0, 1, looms - 1, looms, looms + 1, 2*looms + 1, api.MaxJobs} {
			w := opened(looms, jobs)
			first := make([]int, min(looms, jobs))
			for i := range first {
				first[i] = w.next(t)
			}
			slices.Sort(first)
			for i, job := range first {
				if job != i {
					t.Fatalf("%d looms, %d jobs: first %v are begun", looms, jobs, first)
				}
			}
			for want := len(first); want < jobs; want++ {
				w.letOn(t)
				if job := w.next(t); job != want {
					t.Fatalf("%d looms, %d jobs: %d is begun, not %d", looms, jobs, job, want)
				}
			}
			for range first {
				w.rests(t)
				w.letOn(t)
			}
			w.closes(t)
		}
	}
}

// TestM2EachOnce: each job is done, and once, also where nobody is held.
func TestM2EachOnce(t *testing.T) {
	for range 50 {
		for looms := 1; looms <= api.MaxLooms; looms++ {
			done := make([]int, api.MaxJobs)
			sideBySide(looms, len(done), func(job int) { done[job]++ })
			for job, times := range done {
				if times != 1 {
					t.Fatalf("%d looms: job %d is done %d times", looms, job, times)
				}
			}
		}
	}
}
