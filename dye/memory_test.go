package dye_test

import (
	"fmt"
	"math"
	"slices"
	"testing"

	"tapestry/api"
	"tapestry/dye"
)

// spoil changes a list, and the spare room behind it.
func spoil[T any](l []T, with T) {
	l = l[:cap(l)]
	for i := range l {
		l[i] = with
	}
}

// roomy is a list with spare room behind it that is full of something, and the whole of it.
func roomy[T any](l []T, behind T) (out, whole []T) {
	whole = slices.Concat(l, slices.Repeat([]T{behind}, 9))
	return whole[:len(l)], whole
}

// inBits tells floats bit by bit, so that those that are no number can be held against each other.
func inBits[T any](l []T) string {
	out := ""
	for _, x := range l {
		switch y := any(x).(type) {
		case api.Drop:
			out += fmt.Sprint(bits(y.Dye), math.Float64bits(y.Share), ";")
		case api.Dye:
			out += fmt.Sprint(bits(y), ";")
		default:
			out += fmt.Sprint(y, ";")
		}
	}
	return out
}

// mixSays, nearestSays and dotsSays are all that is answered, as a text.
func mixSays(l []api.Drop) string {
	d, err := dye.Mix(l)
	return fmt.Sprint(bits(d), err)
}

func nearestSays(l []api.Dye, d api.Dye) string {
	place, err := dye.Nearest(l, d)
	return fmt.Sprint(place, err)
}

func dotsSays(wide int, grey []int) string {
	out, lost, err := dye.Dots(wide, grey)
	return fmt.Sprint(out, lost, err)
}

// onlyReads: with spare room full of anything the same is answered; the list and its room stay as they were, and nothing of them is kept.
func onlyReads[T any](t *testing.T, l []T, behind []T, says func(l []T) string) {
	t.Helper()
	want := says(slices.Clone(l))
	for _, b := range behind {
		room, whole := roomy(l, b)
		kept := inBits(whole)
		if got := says(room); got != want {
			t.Errorf("%v: with spare room full of %v comes %s, not %s", l, b, got, want)
		}
		if inBits(whole) != kept {
			t.Errorf("%v was changed, or what stands behind it", l)
		}
		spoil(whole, b)
		if got := says(slices.Clone(l)); got != want {
			t.Errorf("%v: behind a list that was changed comes %s, not %s", l, got, want)
		}
	}
}

// someDrops, someDyes and somePictures are right and wrong ones.
func someDrops() [][]api.Drop {
	wrong := strewnDrops(5, 2)
	wrong[3].Dye.G = math.NaN()
	none := strewnDrops(5, 3)
	none[4].Share = math.Inf(1)
	return [][]api.Drop{nil, strewnDrops(1, 1), strewnDrops(5, 1), strewnDrops(64, 1), strewnDrops(65, 1), wrong, none, make([]api.Drop, 3)}
}

func someDyes() [][]api.Dye {
	wrong := strewnDyes(5, 2)
	wrong[4].B = math.NaN()
	return [][]api.Dye{nil, strewnDyes(1, 1), strewnDyes(5, 1), strewnDyes(256, 1), strewnDyes(257, 1), wrong, make([]api.Dye, 3)}
}

func somePictures() [][]int {
	return [][]int{nil, {127}, {128}, strewnGrey(12, 1), strewnGrey(300, 2), strewnGrey(7, 3), {255, 256}, {-1, 0, 3, 4}, slices.Repeat([]int{255}, 24)}
}

// TestE2OnlyReads: neither lists nor the spare room behind them are changed, nor is that room looked at.
func TestE2OnlyReads(t *testing.T) {
	for _, l := range someDrops() {
		onlyReads(t, l, []api.Drop{{}, {Dye: api.Dye{R: 1, G: 1, B: 1}, Share: 5}, {Dye: api.Dye{R: math.NaN()}, Share: -1}}, mixSays)
	}
	for _, l := range someDyes() {
		for _, d := range []api.Dye{{}, {R: 0.3, G: 0.6, B: 0.9}, {R: 2}} {
			onlyReads(t, l, []api.Dye{d, {}, {R: 1, G: 1, B: 1}, {G: math.NaN()}}, func(l []api.Dye) string { return nearestSays(l, d) })
		}
	}
	for _, l := range somePictures() {
		for _, wide := range []int{1, 2, 3, 4, 0} {
			onlyReads(t, l, []int{0, 128, 255, -1, 256}, func(l []int) string { return dotsSays(wide, l) })
		}
	}
}

// TestE2NewMemory: dots, and the spare room behind them, have nothing to do with other dots, nor with the numbers that were handed in.
func TestE2NewMemory(t *testing.T) {
	for _, x := range somePictures() {
		for _, wide := range []int{1, 2, 3, 4} {
			grey := slices.Clone(x)
			first, firstLost, err := dye.Dots(wide, grey)
			kept := slices.Clone(first)
			second, _, _ := dye.Dots(wide, grey)
			spoil(second, -7)
			if !slices.Equal(first, kept) || !slices.Equal(grey, x) {
				t.Errorf("%v, %d wide: with other dots changed there are %v of %v", x, wide, first, grey)
			}
			spoil(first, 9)
			third, thirdLost, again := dye.Dots(wide, grey)
			if !slices.Equal(third, kept) || thirdLost != firstLost || again != err || !slices.Equal(grey, x) {
				t.Errorf("%v, %d wide: behind dots that were changed come %v, %d, %d, not %v, %d, %d", x, wide, third, thirdLost, again, kept, firstLost, err)
			}
			spoil(grey, 8)
			if !slices.Equal(third, kept) {
				t.Errorf("%v, %d wide: with its numbers changed the dots are %v", x, wide, third)
			}
		}
	}
}

// TestE3NoEntries: nil and a list without entries answer alike, that one too that has spare room.
func TestE3NoEntries(t *testing.T) {
	for _, wide := range []int{math.MinInt, -1, 0, 1, 2, 4096, 4097, math.MaxInt} {
		for _, none := range [][]int{{}, make([]int, 0, 8), []int{1, 2, 3}[:0]} {
			if dotsSays(wide, none) != dotsSays(wide, nil) {
				t.Errorf("%d wide: %s, of nil %s", wide, dotsSays(wide, none), dotsSays(wide, nil))
			}
		}
	}
	for _, none := range [][]api.Drop{{}, make([]api.Drop, 0, 8), strewnDrops(3, 1)[:0]} {
		if mixSays(none) != mixSays(nil) {
			t.Errorf("no drops: %s, of nil %s", mixSays(none), mixSays(nil))
		}
	}
	for _, d := range []api.Dye{{}, {R: 7}} {
		for _, none := range [][]api.Dye{{}, make([]api.Dye, 0, 8), strewnDyes(3, 1)[:0]} {
			if nearestSays(none, d) != nearestSays(nil, d) {
				t.Errorf("no dyes: %s, of nil %s", nearestSays(none, d), nearestSays(nil, d))
			}
		}
	}
}

// everything is what is answered of all that these tests hand in, in an order that begins elsewhere for each turn.
func everything(turn int) []string {
	drops, dyes, pictures := someDrops(), someDyes(), somePictures()
	all := make([]string, len(drops)+len(dyes)+len(pictures))
	for i := range all {
		at := (i + turn) % len(all)
		switch {
		case at < len(drops):
			all[at] = mixSays(drops[at])
		case at < len(drops)+len(dyes):
			all[at] = nearestSays(dyes[at-len(drops)], api.Dye{R: 0.4, G: 0.5, B: 0.6})
		default:
			all[at] = dotsSays(3, pictures[at-len(drops)-len(dyes)])
		}
	}
	return all
}

// TestE1SideBySide: asked again, in any order and by several goroutines, each call answers the same.
func TestE1SideBySide(t *testing.T) {
	want := everything(0)
	told := make([][]string, 12)
	ready := make(chan int)
	for i := range told {
		go func() {
			told[i] = everything(i)
			ready <- i
		}()
	}
	for range told {
		<-ready
	}
	for i, got := range told {
		if !slices.Equal(got, want) || !slices.Equal(everything(i), want) {
			t.Errorf("from %d on: %v, not %v", i, got, want)
		}
	}
}
