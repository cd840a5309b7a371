package house

import (
	"slices"
	"strconv"
	"testing"
	"time"

	"tapestry/api"
)

// workshop is hands that are held at their texts: each tells which one it has begun, and goes on when that one may.
type workshop struct {
	begun chan int
	goOn  []chan bool
	ended chan bool
	made  []api.Made
	fault []api.Fault
}

// opened hands so many texts, which are numbers, to so many hands.
func opened(hands, texts int) *workshop {
	w := &workshop{begun: make(chan int), ended: make(chan bool)}
	var l []string
	for i := range texts {
		l = append(l, strconv.Itoa(i))
		w.goOn = append(w.goOn, make(chan bool))
	}
	go func() {
		defer close(w.ended)
		w.made, w.fault = handOut(l, hands, w.do)
	}()
	return w
}

// do is what a hand makes of a number: as many points, and a fault there.
func (w *workshop) do(text string) (api.Made, api.Fault) {
	n, _ := strconv.Atoi(text)
	w.begun <- n
	<-w.goOn[n]
	return api.Made{Points: n}, api.Fault{At: -n}
}

// next is the next text that is begun.
func (w *workshop) next(t *testing.T) int {
	t.Helper()
	select {
	case n := <-w.begun:
		return n
	case <-w.ended:
		t.Fatal("it ended, though there are texts left")
	case <-time.After(time.Minute):
		t.Fatal("no text is begun, though a hand is free")
	}
	return -1
}

// rests: nothing is begun while all are held, nor does the call answer.
func (w *workshop) rests(t *testing.T) {
	t.Helper()
	select {
	case n := <-w.begun:
		t.Fatalf("text %d is begun, and no hand is free", n)
	case <-w.ended:
		t.Fatal("it ended, though texts are not done")
	case <-time.After(time.Millisecond):
	}
}

// closes: it answers, nothing is begun any more, and of each text stands at its place what came of it.
func (w *workshop) closes(t *testing.T, texts int) {
	t.Helper()
	select {
	case <-w.ended:
	case n := <-w.begun:
		t.Fatalf("text %d is begun, and there is none", n)
	case <-time.After(time.Minute):
		t.Fatal("it does not end")
	}
	if len(w.made) != texts || len(w.fault) != texts {
		t.Fatalf("of %d texts come %d and %d", texts, len(w.made), len(w.fault))
	}
	for i := range texts {
		if w.made[i].Points != i || w.fault[i].At != -i {
			t.Errorf("at %d of %d stands what came of %d and %d", i, texts, w.made[i].Points, -w.fault[i].At)
		}
	}
}

// letOn lets one of those that are held go on, by turns the first one that was begun, the last one, and one between; it answers those that are still held.
func (w *workshop) letOn(t *testing.T, held []int, turn int) []int {
	t.Helper()
	at := []int{0, len(held) - 1, len(held) / 2}[turn%3]
	select {
	case w.goOn[held[at]] <- true:
	case <-time.After(time.Minute):
		t.Fatalf("nobody waits at text %d", held[at])
	}
	return slices.Delete(held, at, at+1)
}

// TestU2AsTheyAreFree: as many texts as there are hands are done at the same time, the first ones; whoever is free, whichever that is, is handed the next one; the call answers when all are done, and not earlier.
func TestU2AsTheyAreFree(t *testing.T) {
	for hands := 1; hands <= api.MaxLooms; hands++ {
		for _, texts := range []int{0, 1, hands - 1, hands, hands + 1, 2*hands + 1, api.MaxJobs} {
			w := opened(hands, texts)
			var held []int
			for range min(hands, texts) {
				held = append(held, w.next(t))
			}
			slices.Sort(held)
			for i, n := range held {
				if n != i {
					t.Fatalf("%d hands, %d texts: first %v are begun", hands, texts, held)
				}
			}
			for want := len(held); want < texts; want++ {
				held = w.letOn(t, held, want)
				n := w.next(t)
				if n != want {
					t.Fatalf("%d hands, %d texts: %d is begun, not %d", hands, texts, n, want)
				}
				held = append(held, n)
			}
			for turn := 0; len(held) > 0; turn++ {
				w.rests(t)
				held = w.letOn(t, held, turn)
			}
			w.closes(t, texts)
		}
	}
}

// TestU2EachOnce: each text is done, and once, also where nobody is held.
func TestU2EachOnce(t *testing.T) {
	var texts []string
	for i := range api.MaxJobs {
		texts = append(texts, strconv.Itoa(i))
	}
	for range 50 {
		for hands := 1; hands <= api.MaxLooms; hands++ {
			times := make([]int, len(texts))
			handOut(texts, hands, func(text string) (api.Made, api.Fault) {
				n, _ := strconv.Atoi(text)
				times[n]++
				return api.Made{}, api.Fault{}
			})
			for n, many := range times {
				if many != 1 {
					t.Fatalf("%d hands: text %d is done %d times", hands, n, many)
				}
			}
		}
	}
}
