package house_test

import (
	"math"
	"runtime"
	"runtime/metrics"
	"slices"
	"testing"
	"time"

	"tapestry/api"
	"tapestry/house"
)

// known are texts with what must come of them, right and wrong ones by turns.
func known() (texts []string, made []api.Made, faults []api.Fault) {
	wrong := wrongTexts()
	for text, want := range byHand() {
		texts, made, faults = append(texts, text), append(made, want), append(faults, api.Fault{})
		x := wrong[len(texts)%len(wrong)]
		texts, made, faults = append(texts, x.text), append(made, api.Made{}), append(faults, x.fault)
	}
	return texts, made, faults
}

// TestU2Known: each text alone, all of them in their order and in other ones, for each number of hands.
func TestU2Known(t *testing.T) {
	texts, made, faults := known()
	for hands := 1; hands <= api.MaxLooms; hands++ {
		for i := range texts {
			comes(t, texts[i:i+1], hands, made[i:i+1], faults[i:i+1])
			comes(t, slices.Concat(texts[i:], texts[:i]), hands, slices.Concat(made[i:], made[:i]), slices.Concat(faults[i:], faults[:i]))
		}
		comes(t, slices.Repeat(texts, 3), hands, slices.Repeat(made, 3), slices.Repeat(faults, 3))
		slices.Reverse(texts)
		slices.Reverse(made)
		slices.Reverse(faults)
		comes(t, texts, hands, made, faults)
	}
}

// TestU2Nothing: of no texts nothing.
func TestU2Nothing(t *testing.T) {
	for hands := 1; hands <= api.MaxLooms; hands++ {
		for _, none := range [][]string{nil, {}, make([]string, 0, 5)} {
			comes(t, none, hands, nil, nil)
		}
	}
}

// amidst are lists of so many, with another one as the first, in the middle and as the last.
func amidst(many int, one, other string) (out [][]string) {
	for _, at := range []int{0, many / 2, many - 1} {
		l := slices.Repeat([]string{one}, many)
		l[at] = other
		out = append(out, l)
	}
	return out
}

// wrongOnes are all texts with faults that these tests have.
func wrongOnes() (out []string) {
	for _, x := range wrongTexts() {
		out = append(out, x.text)
	}
	return out
}

// someLists are lists of texts: one, some that are alike, some that take unlike times, some with faults, and as many as there may be.
func someLists() map[string][]string {
	long := alike(6, 12, 12, 0)
	short := textsOf(20)
	return map[string][]string{
		"one":                     {"□\n·█\n█·\n"},
		"one that takes long":     {long},
		"one with a fault":        {"□\n·█\n█\n"},
		"two":                     {"□\n·█\n█·\n", "△\n·\n"},
		"alike":                   slices.Repeat([]string{"△\n·█\n··\n"}, 20),
		"the longest first":       append([]string{long}, short...),
		"the longest last":        append(slices.Clone(short), long),
		"the longest amidst":      slices.Insert(slices.Clone(short), 10, long, long),
		"all faults":              wrongOnes(),
		"the same fault":          slices.Repeat([]string{"?"}, api.MaxJobs),
		"drawn":                   someTexts(40, 1),
		"as many as there may be": someTexts(api.MaxJobs, 2),
		"fifteen":                 someTexts(api.MaxLooms-1, 3),
		"sixteen":                 someTexts(api.MaxLooms, 4),
		"seventeen":               someTexts(api.MaxLooms+1, 5),
	}
}

// TestU2AsMakeTells: of each text, in their order, what Make tells, for each number of hands.
func TestU2AsMakeTells(t *testing.T) {
	for name, texts := range someLists() {
		t.Run(name, func(t *testing.T) {
			var made []api.Made
			var faults []api.Fault
			for _, text := range texts {
				one, fault := house.Make(text)
				made, faults = append(made, one), append(faults, fault)
			}
			want, wantFaults := workByWords(texts)
			for hands := 1; hands <= api.MaxLooms; hands++ {
				comes(t, texts, hands, made, faults)
				comes(t, texts, hands, want, wantFaults)
			}
		})
	}
}

// TestU2OneWrong: a text with a fault among such without, as the first, in the middle and as the last, and the other way about: what is told of the others stays as it is.
func TestU2OneWrong(t *testing.T) {
	for _, x := range wrongTexts() {
		for _, many := range []int{1, 2, 3, 16, 17, api.MaxJobs} {
			for _, hands := range []int{1, 2, 7, 16} {
				for _, texts := range amidst(many, "□\n·█\n█·\n", x.text) {
					isWorked(t, texts, hands)
				}
			}
		}
		for _, texts := range amidst(9, x.text, "△\nω·\n") {
			isWorked(t, texts, 3)
		}
	}
}

// TestU2AnyMany: how many hands there are is not to be seen in what comes out, for lists of any length.
func TestU2AnyMany(t *testing.T) {
	for many := range api.MaxJobs + 1 {
		texts := someTexts(many, 100+many)
		made, faults := workByWords(texts)
		for _, hands := range []int{1, 2, 3, max(1, min(many, 16)), 15, 16} {
			comes(t, texts, hands, made, faults)
		}
	}
}

// TestU2Greatest: MaxJobs of the texts that take longest.
func TestU2Greatest(t *testing.T) {
	texts := slices.Repeat([]string{alike(6, 24, 24, 0), alike(4, 24, 24, 1)}, api.MaxJobs/2)
	two, twoFaults := workByWords(texts[:2])
	made, faults := slices.Repeat(two, api.MaxJobs/2), slices.Repeat(twoFaults, api.MaxJobs/2)
	ends(t, func() {
		for _, hands := range []int{1, 2, 16} {
			comes(t, texts, hands, made, faults)
		}
	})
}

// TestU2LongestTexts: MaxJobs texts of MaxText bytes, and longer ones.
func TestU2LongestTexts(t *testing.T) {
	wrong := wrongTexts()
	for _, x := range wrong {
		if len(x.text) < api.MaxText {
			continue
		}
		texts := slices.Repeat([]string{x.text}, api.MaxJobs)
		for _, hands := range []int{1, 16} {
			comes(t, texts, hands, make([]api.Made, api.MaxJobs), slices.Repeat([]api.Fault{x.fault}, api.MaxJobs))
		}
	}
}

// TestU2TimeAndAgain: the same call answers the same, many times over, and ends each time.
func TestU2TimeAndAgain(t *testing.T) {
	texts := append(textsOf(24), wrongOnes()...)
	made, faults := workByWords(texts)
	ends(t, func() {
		for range 60 {
			for _, hands := range []int{1, 2, 3, 8, 15, 16} {
				comes(t, texts, hands, made, faults)
				comes(t, texts[:3], hands, made[:3], faults[:3])
				comes(t, nil, hands, nil, nil)
			}
		}
	})
}

// TestU2OnFewCores: what comes out is the same, however many goroutines can run at the same time.
func TestU2OnFewCores(t *testing.T) {
	cores := runtime.GOMAXPROCS(0)
	defer runtime.GOMAXPROCS(cores)
	texts := someTexts(40, 6)
	made, faults := workByWords(texts)
	for _, n := range []int{1, 2, 3, 40} {
		runtime.GOMAXPROCS(n)
		ends(t, func() {
			for hands := 1; hands <= api.MaxLooms; hands++ {
				comes(t, texts, hands, made, faults)
			}
		})
	}
}

// created is how many goroutines there have been since the beginning.
func created() int {
	l := []metrics.Sample{{Name: "/sched/goroutines-created:goroutines"}}
	metrics.Read(l)
	return int(l[0].Value.Uint64())
}

// TestU2SoManyGoroutines: there come as many goroutines as hands, of few texts and of many; none at an error. Others may come beside them, of the tests or of the library, so the least of some tries is held.
func TestU2SoManyGoroutines(t *testing.T) {
	for _, many := range []int{0, 1, 5, 16, 17, api.MaxJobs, api.MaxJobs + 1} {
		texts := textsOf(many)
		for hands := range api.MaxLooms + 2 {
			want := hands
			if many > api.MaxJobs || hands > api.MaxLooms {
				want = 0
			}
			least := math.MaxInt
			for range 20 {
				before := created()
				house.Work(texts, hands)
				least = min(least, created()-before)
			}
			if least != want {
				t.Errorf("%d hands, %d texts: %d goroutines", hands, many, least)
			}
		}
	}
}

// TestU2NoneIsLeft: behind the call no goroutine of it is left, nor behind an error; one that has ended may be counted for a moment yet.
func TestU2NoneIsLeft(t *testing.T) {
	before := runtime.NumGoroutine()
	for hands := -1; hands <= api.MaxLooms+1; hands++ {
		for _, texts := range [][]string{nil, {"□\n·\n"}, wrongOnes(), someTexts(40, 7), textsOf(api.MaxJobs + 1)} {
			house.Work(texts, hands)
		}
	}
	for till := time.Now().Add(20 * time.Second); runtime.NumGoroutine() > before && time.Now().Before(till); {
		time.Sleep(time.Millisecond)
	}
	if left := runtime.NumGoroutine() - before; left > 0 {
		t.Errorf("%d goroutines are left", left)
	}
}

// TestU2SideBySide: many calls at the same time, each with its own texts and its own number of hands: each answers as if it were alone.
func TestU2SideBySide(t *testing.T) {
	ends(t, func() {
		ready := make(chan int)
		for i := range 12 {
			go func() {
				texts := someTexts(5+i*3, 200+i)
				made, faults := workByWords(texts)
				for n := range 12 {
					comes(t, texts, 1+(5*i+n)%api.MaxLooms, made, faults)
					workTells(t, texts, 17+n, api.ErrRange)
					workTells(t, textsOf(65+n), 1+n, api.ErrMany)
					isMade(t, texts[n%len(texts)])
				}
				ready <- i
			}()
		}
		for range 12 {
			<-ready
		}
	})
}
