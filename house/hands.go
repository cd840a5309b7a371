package house

import (
	"sync"

	"tapestry/api"
)

// job is a text that is handed out, and its place among all of them.
type job struct {
	place int
	text  string
}

// done is what a hand tells of the text at a place: what came of it.
type done struct {
	place int
	made  api.Made
	fault api.Fault
}

// handOut hands texts to so many hands, one by one, as they are free. It answers what came of each, in their order, when no hand does anything any more.
func handOut(texts []string, hands int, do func(text string) (api.Made, api.Fault)) ([]api.Made, []api.Fault) {
	handed := make(chan job)
	told := make(chan done, len(texts)) // room for all, so that no hand waits until it is heard
	var crew sync.WaitGroup
	for range hands {
		crew.Go(func() { lendHand(handed, told, do) })
	}
	for i, text := range texts {
		handed <- job{i, text}
	}
	close(handed)
	crew.Wait()
	close(told)
	return inOrder(told, len(texts))
}

// lendHand does one job after the other, till no more are handed out.
func lendHand(handed <-chan job, told chan<- done, do func(text string) (api.Made, api.Fault)) {
	for j := range handed {
		made, fault := do(j.text)
		told <- done{j.place, made, fault}
	}
}

// inOrder puts what is told of so many texts, in whichever order, at their places.
func inOrder(told <-chan done, texts int) ([]api.Made, []api.Fault) {
	made, faults := make([]api.Made, texts), make([]api.Fault, texts)
	for d := range told {
		made[d.place], faults[d.place] = d.made, d.fault
	}
	return made, faults
}
