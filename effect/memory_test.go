package effect_test

import (
	"fmt"
	"math"
	"slices"
	"testing"

	"tapestry/api"
	"tapestry/effect"
)

// spoil changes a list, and the spare room behind it.
func spoil[T any](l []T, with T) {
	l = l[:cap(l)]
	for i := range l {
		l[i] = with
	}
}

// roomy is a list with spare room behind it that is full of something, and the whole of it.
func roomy[T any](l []T, behind T) (out, whole []T) {
	whole = slices.Concat(l, slices.Repeat([]T{behind}, 9))
	return whole[:len(l)], whole
}

// isWhole tells whether a list, and the room behind it that is full of something, are as they were.
func isWhole[T comparable](whole, l []T, behind T) bool {
	return slices.Equal(whole, slices.Concat(l, slices.Repeat([]T{behind}, 9)))
}

// asked is what the three calls are asked.
type asked struct {
	s api.Strung
	m api.Truth
	c api.Chart
}

// shown, threads and cloth are all that is answered, as texts.
func (x asked) shown() string {
	c, err := effect.Shown(x.s, x.m)
	return fmt.Sprint(c, err)
}

func (x asked) threads() string {
	s, err := effect.String(x.c)
	return fmt.Sprint(s, err)
}

func (x asked) cloth() string {
	m, err := effect.Cloth(x.s, x.c)
	return fmt.Sprint(m, err)
}

func (x asked) says() string { return x.shown() + " " + x.threads() + " " + x.cloth() }

// own is the same with lists of its own.
func (x asked) own() asked {
	x.s.Ends, x.s.Picks = slices.Clone(x.s.Ends), slices.Clone(x.s.Picks)
	x.m.Bits, x.c.Cells = slices.Clone(x.m.Bits), slices.Clone(x.c.Cells)
	return x
}

// lists are the wholes of what is handed in, spare room too.
type lists struct {
	ends, picks, cells []int
	bits               []bool
}

// roomy is the same with spare room behind each list.
func (x asked) roomy(number int, bit bool) (asked, lists) {
	var l lists
	x.s.Ends, l.ends = roomy(x.s.Ends, number)
	x.s.Picks, l.picks = roomy(x.s.Picks, number)
	x.c.Cells, l.cells = roomy(x.c.Cells, number)
	x.m.Bits, l.bits = roomy(x.m.Bits, bit)
	return x, l
}

// areOf tells whether the lists are those of what was asked, with the room behind them as it was.
func (l lists) areOf(x asked, number int, bit bool) bool {
	return isWhole(l.ends, x.s.Ends, number) && isWhole(l.picks, x.s.Picks, number) && isWhole(l.cells, x.c.Cells, number) && isWhole(l.bits, x.m.Bits, bit)
}

func (l lists) spoil() {
	spoil(l.ends, -7)
	spoil(l.picks, 7)
	spoil(l.cells, 77)
	spoil(l.bits, true)
}

// spoil changes all lists that are handed in.
func (x asked) spoil() {
	lists{x.s.Ends, x.s.Picks, x.c.Cells, x.m.Bits}.spoil()
}

// someAsked are right ones and wrong ones.
func someAsked() []asked {
	out := []asked{
		{},
		{strung("0", "5"), cloth("0"), picture("5")},
		{strung("121", "31"), cloth("100", "110"), picture("133", "121")},
		{strung("12", "345"), cloth("10", "01", "11"), picture("01", "23", "45")},
		{threads(64, 64), filled(64, 64, true), plainChart(64, 64)},
		{threads(65, 1), filled(64, 1, true), knot(64, 64, 7, 62, 61, 6)},
		{threads(63, 64), filled(63, 64, false), rowToOne(63)},
		{threads(3, 2), api.Truth{Wide: 3, High: 2, Bits: make([]bool, 5)}, api.Chart{Grid: 4, Wide: 3, High: 2, Cells: make([]int, 5)}},
		{api.Strung{Ends: []int{3, 62}, Picks: []int{3}}, cloth("11"), chartOf(2, []int{3, 62})},
		{threads(2, 2), cloth("11"), inHex(picture("33", "33"))},
	}
	for seed := range 40 {
		s, m := drawnAsked(seed)
		out = append(out, asked{s, m, changed(strew(seed), shownByWords(s, m), seed%3)})
	}
	return out
}

// TestE2OnlyReads: neither lists nor the spare room behind them are changed, nor is that room looked at, nor anything kept.
func TestE2OnlyReads(t *testing.T) {
	for _, x := range someAsked() {
		want := x.own().says()
		for _, number := range []int{0, 3, 61, 62, -1, math.MaxInt} {
			for _, bit := range []bool{false, true} {
				with, l := x.own().roomy(number, bit)
				if got := with.says(); got != want {
					t.Errorf("with spare room full of %d and %v comes %.200s, not %.200s", number, bit, got, want)
				}
				if !l.areOf(x, number, bit) {
					t.Errorf("%s; %s; %s: something was changed, or what stands behind it", aboutThreads(x.s), aboutCloth(x.m), aboutChart(x.c))
				}
				l.spoil()
				if got := x.own().says(); got != want {
					t.Errorf("behind lists that were changed comes %.200s, not %.200s", got, want)
				}
			}
		}
	}
}

// TestE2ShownNewMemory: a picture, and the spare room behind its cells, have nothing to do with other pictures, nor with what was handed in.
func TestE2ShownNewMemory(t *testing.T) {
	for _, x := range someAsked() {
		want, mine := x.own().shown(), x.own()
		first, err := effect.Shown(mine.s, mine.m)
		second, _ := effect.Shown(mine.s, mine.m)
		spoil(second.Cells, -7)
		mine.spoil()
		if got := fmt.Sprint(first, err); got != want {
			t.Errorf("with others changed it is %.200s, not %.200s", got, want)
		}
		mine = x.own()
		third, _ := effect.Shown(mine.s, mine.m)
		spoil(first.Cells, 9)
		spoil(third.Cells, 9)
		if got := mine.says(); got != x.says() {
			t.Errorf("behind pictures that were changed comes %.200s, not %.200s", got, x.says())
		}
	}
}

// TestE2ClothNewMemory: likewise a cloth and its bits.
func TestE2ClothNewMemory(t *testing.T) {
	for _, x := range someAsked() {
		want, mine := x.own().cloth(), x.own()
		first, err := effect.Cloth(mine.s, mine.c)
		for _, with := range []bool{false, true} {
			second, _ := effect.Cloth(mine.s, mine.c)
			spoil(second.Bits, with)
		}
		mine.spoil()
		if got := fmt.Sprint(first, err); got != want {
			t.Errorf("with others changed it is %.200s, not %.200s", got, want)
		}
		for _, with := range []bool{false, true} {
			mine = x.own()
			third, _ := effect.Cloth(mine.s, mine.c)
			spoil(first.Bits, with)
			spoil(third.Bits, with)
			if got := mine.says(); got != x.says() {
				t.Errorf("behind cloths that were changed comes %.200s, not %.200s", got, x.says())
			}
		}
	}
}

// TestE2StringNewMemory: likewise threads, ends and picks.
func TestE2StringNewMemory(t *testing.T) {
	for _, x := range someAsked() {
		want, mine := x.own().threads(), x.own()
		first, err := effect.String(mine.c)
		second, _ := effect.String(mine.c)
		spoil(second.Ends, -7)
		spoil(second.Picks, 7)
		mine.spoil()
		if got := fmt.Sprint(first, err); got != want {
			t.Errorf("with others changed they are %.200s, not %.200s", got, want)
		}
		mine = x.own()
		third, _ := effect.String(mine.c)
		for _, s := range []api.Strung{first, third} {
			spoil(s.Ends, 9)
			spoil(s.Picks, -9)
		}
		if got := mine.says(); got != x.says() {
			t.Errorf("behind threads that were changed comes %.200s, not %.200s", got, x.says())
		}
	}
}

// TestE2EndsAndPicksApart: the two lists that String answers share nothing, their spare room neither: what is changed in one, or put behind it, changes nothing of the other.
func TestE2EndsAndPicksApart(t *testing.T) {
	for _, x := range someAsked() {
		want, err := effect.String(x.c)
		if err != api.OK {
			continue
		}
		ends, picks := slices.Clone(want.Ends), slices.Clone(want.Picks)
		for _, many := range []int{1, 2, 63, 64, 65, 200} {
			more := slices.Repeat([]int{-7}, many)
			one, _ := effect.String(x.c)
			_ = append(one.Ends, more...)
			if !slices.Equal(one.Picks, picks) || !slices.Equal(one.Ends, ends) {
				t.Errorf("%s: with %d more behind the ends they are %s", aboutChart(x.c), many, aboutThreads(one))
			}
			_ = append(one.Picks, more...)
			if !slices.Equal(one.Picks, picks) || !slices.Equal(one.Ends, ends) {
				t.Errorf("%s: with %d more behind the picks they are %s", aboutChart(x.c), many, aboutThreads(one))
			}
		}
		one, _ := effect.String(x.c)
		spoil(one.Ends, -7)
		if !slices.Equal(one.Picks, picks) {
			t.Errorf("%s: with the ends changed the picks are %s", aboutChart(x.c), few(one.Picks))
		}
		other, _ := effect.String(x.c)
		spoil(other.Picks, -7)
		if !slices.Equal(other.Ends, ends) {
			t.Errorf("%s: with the picks changed the ends are %s", aboutChart(x.c), few(other.Ends))
		}
	}
}

// TestE2NothingKept: the same lists, changed between calls, are looked at anew each time.
func TestE2NothingKept(t *testing.T) {
	s, m, c := strung("12", "34"), cloth("10", "01"), picture("12", "34")
	shows(t, s, m, picture("13", "42"))
	m.Bits[1] = true
	shows(t, s, m, picture("12", "42"))
	s.Ends[0], s.Picks[1] = 5, 6
	shows(t, s, m, picture("52", "62"))
	s.Ends[1] = 62
	shownTells(t, s, m, api.ErrRange)
	isStrung(t, c, strung("14", "23"))
	c.Cells[0] = 2
	isStrung(t, c, strung("04", "23"))
	c.Cells[3] = 62
	stringTells(t, c, api.ErrRange)
	c.Cells[3], s.Ends[0], s.Ends[1], s.Picks[0] = 6, 3, 2, 2
	weaves(t, s, c, cloth("01", "10"))
	s.Ends[1] = 3
	weaves(t, s, c, cloth("00", "10"))
	c.Cells[2] = 4
	clothTells(t, s, c, api.ErrNone)
}

// TestE3NoEntries: nil and a list without entries answer alike, that one too that has spare room.
func TestE3NoEntries(t *testing.T) {
	noNumbers := [][]int{{}, make([]int, 0, 8), []int{1, 2}[:0], []int{-1, 62}[:0]}
	noBits := [][]bool{{}, make([]bool, 0, 8), []bool{true}[:0]}
	for i, none := range noNumbers {
		for _, with := range []struct{ of, ofNil asked }{
			{asked{s: api.Strung{Ends: none, Picks: []int{1}}}, asked{s: api.Strung{Picks: []int{1}}}},
			{asked{s: api.Strung{Ends: []int{1}, Picks: none}}, asked{s: api.Strung{Ends: []int{1}}}},
			{asked{s: api.Strung{Ends: none, Picks: none}}, asked{}},
			{asked{s: api.Strung{Ends: none, Picks: []int{62}}}, asked{s: api.Strung{Picks: []int{62}}}},
			{asked{s: strung("1", "2"), c: api.Chart{Grid: 4, Wide: 1, High: 1, Cells: none}}, asked{s: strung("1", "2"), c: api.Chart{Grid: 4, Wide: 1, High: 1}}},
			{asked{s: strung("1", "2"), c: api.Chart{Grid: 4, Cells: none}}, asked{s: strung("1", "2"), c: api.Chart{Grid: 4}}},
			{asked{s: strung("1", "2"), m: api.Truth{Bits: noBits[i%3]}}, asked{s: strung("1", "2")}},
			{asked{s: strung("1", "2"), m: api.Truth{Wide: 1, Bits: noBits[i%3]}}, asked{s: strung("1", "2"), m: api.Truth{Wide: 1}}},
			{asked{s: strung("1", "2"), m: api.Truth{Wide: 1, High: 1, Bits: noBits[i%3]}}, asked{s: strung("1", "2"), m: api.Truth{Wide: 1, High: 1}}},
		} {
			if got, want := with.of.says(), with.ofNil.says(); got != want {
				t.Errorf("%s, of nil %s", got, want)
			}
		}
	}
}

// edges are numbers at which something ends, int's own too.
func edges() []int {
	return []int{math.MinInt, math.MinInt + 1, -65, -1, 0, 1, 2, 3, 4, 6, 61, 62, 63, 64, 65, 1 << 31, 1 << 32, 1 << 62, math.MaxInt - 1, math.MaxInt}
}

// drawnAnything is what has neither order nor bounds; some of it goes together.
func drawnAnything(next func(below int) int) asked {
	anyOf := func(l []int) int { return l[next(len(l))] }
	side := func() int { return anyOf([]int{1, 2, 2, 3, 3, anyOf(edges())}) }
	list := func(many int) []int {
		out := make([]int, many)
		for i := range out {
			out[i] = next(3)
		}
		if many > 0 && next(8) == 0 {
			out[next(many)] = anyOf(edges())
		}
		return out
	}
	wide, high := side(), side()
	cells := anyOf([]int{wide * high, wide * high, next(10)})
	if !within(cells, 0, 64*64) {
		cells = 4
	}
	ends, picks := anyOf([]int{wide, wide, next(5)}), anyOf([]int{high, high, next(5)})
	return asked{
		api.Strung{Ends: list(min(max(ends, 0), 65)), Picks: list(min(max(picks, 0), 65))},
		api.Truth{Wide: wide, High: high, Bits: make([]bool, cells)},
		api.Chart{Grid: anyOf([]int{4, 4, 4, 4, 6, anyOf(edges())}), Wide: wide, High: high, Cells: list(cells)},
	}
}

// TestE1WhateverIsGiven: anything at all is answered as the words say.
func TestE1WhateverIsGiven(t *testing.T) {
	came := map[api.Errno]int{}
	for seed := range 20000 {
		isAsWords(t, drawnAnything(strew(seed)), came)
	}
	hasCome(t, came, 500, api.OK, api.ErrKind, api.ErrRange, api.ErrMany, api.ErrNone, api.ErrFit)
}

// isAsWords holds all three calls against the words, and counts what they say.
func isAsWords(t *testing.T, x asked, came map[api.Errno]int) {
	t.Helper()
	err := shownWrong(x.s, x.m)
	came[err]++
	if err != api.OK {
		shownTells(t, x.s, x.m, err)
	} else {
		shows(t, x.s, x.m, shownByWords(x.s, x.m))
	}
	came[clothAsWords(t, x.s, x.c)]++
	err = stringWrong(x.c)
	came[err]++
	if err != api.OK {
		stringTells(t, x.c, err)
		return
	}
	want, found := searched(x.c)
	isFirst(t, x.c, want, found)
}

// everything is what is answered of all that these tests ask, in an order that begins elsewhere for each turn.
func everything(turn int, all []asked) []string {
	out := make([]string, len(all))
	for i := range all {
		at := (i + turn) % len(all)
		out[at] = all[at].says()
	}
	return out
}

// TestE1SideBySide: asked again, in any order and by several goroutines, about the same lists, each call answers the same.
func TestE1SideBySide(t *testing.T) {
	all := someAsked()
	want := everything(0, all)
	told := make([][]string, 12)
	ready := make(chan int)
	for i := range told {
		go func() {
			told[i] = everything(i, all)
			ready <- i
		}()
	}
	for range told {
		<-ready
	}
	for i, got := range told {
		if !slices.Equal(got, want) || !slices.Equal(everything(i, all), want) {
			t.Errorf("from %d on other answers come", i)
		}
	}
}
