package sett_test

import (
	"fmt"
	"math"
	"slices"
	"testing"

	"tapestry/api"
	"tapestry/sett"
)

// spoil changes a list, and the spare room behind it.
func spoil[T any](l []T, with T) {
	l = l[:cap(l)]
	for i := range l {
		l[i] = with
	}
}

// roomy is a list with spare room behind it that is full of something, and the whole of it.
func roomy[T any](l []T, behind T) (out, whole []T) {
	whole = slices.Concat(l, slices.Repeat([]T{behind}, 9))
	return whole[:len(l)], whole
}

// settSays, foldSays and readSays are all that is answered, as a text.
func settSays(s api.Sett) string {
	l, err := sett.Threads(s)
	text, errPrint := sett.Print(s)
	return fmt.Sprint(sett.Wrong(s), l, err, text, errPrint)
}

func foldSays(threads []int) string {
	s, err := sett.Fold(threads)
	return fmt.Sprint(s, err)
}

func readSays(text string) string {
	s, fault := sett.Read(text)
	return fmt.Sprint(s, fault)
}

// asked is what the five calls are asked.
type asked struct {
	s       api.Sett
	threads []int
	text    string
}

// says is what all five answer.
func (x asked) says() string {
	return settSays(x.s) + " " + foldSays(x.threads) + " " + readSays(x.text)
}

// own is the same with lists of its own.
func (x asked) own() asked {
	return asked{api.Sett{Pivot: x.s.Pivot, Stripes: slices.Clone(x.s.Stripes)}, slices.Clone(x.threads), x.text}
}

// someAsked are right ones and wrong ones.
func someAsked() []asked {
	out := []asked{
		{},
		{over(stripe(a, 1)), []int{a}, "a1"},
		{back(stripe(a, 1)), []int{a, b}, "/a1/"},
		{back(counts(2, 1, 3)...), []int{a, a, b, c, b}, "/a2 b1 c3/"},
		{over(narrow(257)...), turns(512), again("a1 ", 256) + "b1"},
		{back(narrow(256)...), turns(510), "/" + again("a1 ", 255) + "b1/"},
		{over(stripe(-1, 1), stripe(a, 1)), []int{a, -1}, "a1 b0"},
		{over(stripe(a, 4097), stripe(a, 1)), make([]int, 4097), "a1 b4097"},
		{back(counts(1, 2048, 1)...), laid(counts(4096, 1)...), "a4096 b1"},
		{back(counts(1, 2047, 1)...), laid(counts(4000, 95, 1)...), "/a1 b2047 c1/"},
		{over(narrow(256)...), laid(narrow(256)...), again("x", 65537)},
	}
	for seed := range 30 {
		s := drawn(seed)
		x := asked{s: s, threads: turns(seed)}
		if wrongByWords(s) == api.OK {
			x.threads, x.text = comesOnce(s), printByWords(s)
		}
		out = append(out, x)
	}
	return out
}

// TestE2OnlyReads: neither lists nor the spare room behind them are changed, nor is that room looked at, nor anything kept.
func TestE2OnlyReads(t *testing.T) {
	for _, x := range someAsked() {
		want := x.own().says()
		for _, behind := range []api.Stripe{{}, stripe(a, 1), stripe(b, 4096), stripe(-1, math.MaxInt)} {
			stripes, whole := roomy(x.s.Stripes, behind)
			threads, all := roomy(x.threads, behind.Colour)
			if got := (asked{api.Sett{Pivot: x.s.Pivot, Stripes: stripes}, threads, x.text}).says(); got != want {
				t.Errorf("with spare room full of %v comes %.200s, not %.200s", behind, got, want)
			}
			if !slices.Equal(whole, slices.Concat(x.s.Stripes, slices.Repeat([]api.Stripe{behind}, 9))) {
				t.Errorf("%s was changed, or what stands behind it", about(x.s))
			}
			if !slices.Equal(all, slices.Concat(x.threads, slices.Repeat([]int{behind.Colour}, 9))) {
				t.Errorf("%s were changed, or what stands behind them", few(x.threads))
			}
			spoil(whole, behind)
			spoil(all, behind.Colour)
			if got := x.own().says(); got != want {
				t.Errorf("behind lists that were changed comes %.200s, not %.200s", got, want)
			}
		}
	}
}

// TestE2ThreadsNewMemory: threads, and the spare room behind them, have nothing to do with other threads, nor with the sett that was handed in.
func TestE2ThreadsNewMemory(t *testing.T) {
	for _, x := range someAsked() {
		mine := x.own().s
		first, err := sett.Threads(mine)
		kept := slices.Clone(first)
		second, _ := sett.Threads(mine)
		spoil(second, -7)
		spoil(mine.Stripes, stripe(7, 7))
		if !slices.Equal(first, kept) {
			t.Errorf("%s: with others changed its threads are %s", about(x.s), few(first))
		}
		spoil(first, 99)
		if third, again := sett.Threads(x.s); !slices.Equal(third, kept) || again != err {
			t.Errorf("%s: behind threads that were changed come %s, %d", about(x.s), few(third), again)
		}
	}
}

// TestE2FoldNewMemory: likewise the stripes that threads are folded to.
func TestE2FoldNewMemory(t *testing.T) {
	for _, x := range someAsked() {
		mine := slices.Clone(x.threads)
		first, err := sett.Fold(mine)
		want := foldSays(x.threads)
		second, _ := sett.Fold(mine)
		spoil(second.Stripes, stripe(-7, 7))
		spoil(mine, 5)
		if got := fmt.Sprint(first, err); got != want {
			t.Errorf("%s: with others changed they are folded to %.200s, not %.200s", few(x.threads), got, want)
		}
		spoil(first.Stripes, stripe(9, -9))
		if got := foldSays(x.threads); got != want {
			t.Errorf("%s: behind stripes that were changed comes %.200s, not %.200s", few(x.threads), got, want)
		}
	}
}

// TestE2ReadNewMemory: likewise the stripes of a text.
func TestE2ReadNewMemory(t *testing.T) {
	for _, x := range someAsked() {
		first, fault := sett.Read(x.text)
		want := readSays(x.text)
		second, _ := sett.Read(x.text)
		spoil(second.Stripes, stripe(-7, 7))
		if got := fmt.Sprint(first, fault); got != want {
			t.Errorf("%.60q: with others changed it is read as %.200s, not %.200s", x.text, got, want)
		}
		spoil(first.Stripes, stripe(9, -9))
		if got := readSays(x.text); got != want {
			t.Errorf("%.60q: behind stripes that were changed comes %.200s, not %.200s", x.text, got, want)
		}
	}
}

// TestE2NothingKept: the same lists, changed between calls, are looked at anew each time.
func TestE2NothingKept(t *testing.T) {
	s := back(stripe(a, 1), stripe(b, 2))
	hasThreads(t, s, []int{a, b, b})
	s.Stripes[0].Count = 2
	hasThreads(t, s, []int{a, a, b, b})
	s.Stripes[1].Colour = 62
	tells(t, s, api.ErrRange)
	s.Stripes[1].Colour = 61
	prints(t, s, "/a2 z2/")
	threads := []int{a, b, c, b}
	foldsTo(t, threads, back(stripe(a, 1), stripe(b, 1), stripe(c, 1)))
	threads[3] = d
	foldsTo(t, threads, over(stripe(a, 1), stripe(b, 1), stripe(c, 1), stripe(d, 1)))
	threads[0] = -1
	foldTells(t, threads, api.ErrRange)
}

// TestE3NoEntries: nil and a list without entries answer alike, that one too that has spare room.
func TestE3NoEntries(t *testing.T) {
	for _, none := range [][]api.Stripe{{}, make([]api.Stripe, 0, 8), narrow(5)[:0], []api.Stripe{stripe(-1, 0)}[:0]} {
		for _, pivot := range []bool{false, true} {
			if got, want := settSays(api.Sett{Pivot: pivot, Stripes: none}), settSays(api.Sett{Pivot: pivot}); got != want {
				t.Errorf("%s, of nil %s", got, want)
			}
		}
	}
	for _, none := range [][]int{{}, make([]int, 0, 8), []int{1, 2}[:0], []int{-1}[:0]} {
		if got, want := foldSays(none), foldSays(nil); got != want {
			t.Errorf("%s, of nil %s", got, want)
		}
	}
}

// TestE1WhateverIsGiven: what has neither order nor bounds is answered as the words say.
func TestE1WhateverIsGiven(t *testing.T) {
	edges := []int{math.MinInt, math.MinInt + 1, -4097, -1, 0, 1, 2, 61, 62, 4095, 4096, 4097, 1 << 31, 1 << 62, math.MaxInt - 1, math.MaxInt}
	for seed := range 3000 {
		next := strew(seed)
		s := api.Sett{Pivot: next(2) == 0}
		var threads []int
		var bytes []byte
		for range next(7) {
			s.Stripes = append(s.Stripes, stripe(edges[next(len(edges))], edges[next(len(edges))]))
			threads = append(threads, edges[next(len(edges))])
			bytes = append(bytes, byte(next(256)))
		}
		tells(t, s, wrongByWords(s))
		foldsAsWords(t, threads)
		readsAsWords(t, string(bytes))
		readsAsWords(t, "/a1 "+string(bytes))
	}
}

// everything is what is answered of all that these tests ask, in an order that begins elsewhere for each turn.
func everything(turn int, all []asked) []string {
	out := make([]string, len(all))
	for i := range all {
		at := (i + turn) % len(all)
		out[at] = all[at].says()
	}
	return out
}

// TestE1SideBySide: asked again, in any order and by several goroutines, about the same lists, each call answers the same.
func TestE1SideBySide(t *testing.T) {
	all := someAsked()
	want := everything(0, all)
	told := make([][]string, 12)
	ready := make(chan int)
	for i := range told {
		go func() {
			told[i] = everything(i, all)
			ready <- i
		}()
	}
	for range told {
		<-ready
	}
	for i, got := range told {
		if !slices.Equal(got, want) || !slices.Equal(everything(i, all), want) {
			t.Errorf("from %d on other answers come", i)
		}
	}
}
