package effect_test

import (
	"slices"
	"testing"

	"tapestry/api"
	"tapestry/effect"
)

// TestExample19Cloth: of the document: an end of colour 0 lies below a pick of colour 5 where a picture is 5.
func TestExample19Cloth(t *testing.T) {
	weaves(t, strung("0", "5"), picture("5"), cloth("0"))
	weaves(t, strung("0", "5"), picture("0"), cloth("1"))
	clothTells(t, strung("0", "5"), picture("1"), api.ErrNone)
}

// TestO3ByHand: cloths written out.
func TestO3ByHand(t *testing.T) {
	for _, x := range []struct {
		s    api.Strung
		c    api.Chart
		want api.Truth
	}{
		{strung("5", "5"), picture("5"), cloth("1")}, // either would show it: the end lies above
		{strung("0", "0"), picture("0"), cloth("1")},
		{strung("55", "55"), picture("55", "55"), cloth("11", "11")},
		{strung("123", "45"), picture("123", "123"), cloth("111", "111")},
		{strung("123", "45"), picture("444", "555"), cloth("000", "000")},
		{strung("123", "45"), picture("423", "153"), cloth("011", "101")},
		{strung("12", "345"), picture("13", "42", "12"), cloth("10", "01", "11")},
		{strung("121", "31"), picture("133", "121"), cloth("100", "111")}, // of the last pick's colour is the last end too
		{strung("121", "12"), picture("121", "222"), cloth("111", "010")},
		{strung("01", "01"), picture("01", "01"), cloth("11", "11")},
		{strung("01", "01"), picture("00", "11"), cloth("10", "01")},
		{strung("7", "777"), picture("7", "7", "7"), cloth("1", "1", "1")},
		{strung("7", "373"), picture("3", "7", "7"), cloth("0", "1", "1")},
		{strung("373", "7"), picture("377"), cloth("110")},
		{strung("0Z", "Z0"), picture("0Z", "00"), cloth("11", "10")},
	} {
		weaves(t, x.s, x.c, x.want)
	}
}

// TestO3EachColour: of an end and a pick of all colours, where the picture is the end's, the pick's, or neither's.
func TestO3EachColour(t *testing.T) {
	for end := range 62 {
		for pick := range 62 {
			s := api.Strung{Ends: []int{end}, Picks: []int{pick}}
			for cell := range 62 {
				c := chartOf(1, []int{cell})
				switch cell {
				case end:
					weaves(t, s, c, cloth("1"))
				case pick:
					weaves(t, s, c, cloth("0"))
				default:
					clothTells(t, s, c, api.ErrNone)
				}
			}
		}
	}
}

// TestO3NoneInOnePlace: a cell of another colour, wherever it stands; one of the next end's or the next pick's is no better.
func TestO3NoneInOnePlace(t *testing.T) {
	for _, sides := range [][2]int{{1, 1}, {2, 2}, {5, 3}, {3, 5}, {1, 7}, {7, 1}, {64, 64}} {
		wide, high := sides[0], sides[1]
		s := api.Strung{Ends: make([]int, wide), Picks: make([]int, high)}
		for x := range s.Ends {
			s.Ends[x] = x % 2
		}
		for y := range s.Picks {
			s.Picks[y] = 2 + y%2
		}
		for _, above := range []bool{false, true} {
			right := shownByWords(s, filled(wide, high, above))
			weaves(t, s, right, filled(wide, high, above))
			for at := range wide * high {
				if wide*high > 100 && at%97 > 0 && at != wide*high/2 && at != wide*high-1 {
					continue
				}
				for _, colour := range []int{4, 61, 1 - s.Ends[at%wide], 5 - s.Picks[at/wide]} {
					c := right
					c.Cells = slices.Clone(right.Cells)
					c.Cells[at] = colour
					clothTells(t, s, c, api.ErrNone)
				}
			}
		}
	}
}

// TestO3AllSmall: all pictures of up to four cells of three colours, with all threads.
func TestO3AllSmall(t *testing.T) {
	for _, sides := range [][2]int{{1, 1}, {1, 2}, {2, 1}, {1, 3}, {3, 1}, {2, 2}} {
		wide, high := sides[0], sides[1]
		for _, cells := range listsOf([]int{0, 1, 61}, wide*high) {
			c := chartOf(wide, cells)
			for _, all := range listsOf([]int{0, 1, 61}, wide+high) {
				clothAsWords(t, api.Strung{Ends: all[:wide], Picks: all[wide:]}, c)
			}
		}
	}
}

// clothAsWords holds Cloth against O3's words, whatever is asked, and tells what it says.
func clothAsWords(t *testing.T, s api.Strung, c api.Chart) api.Errno {
	t.Helper()
	if err := clothWrong(s, c); err != api.OK {
		clothTells(t, s, c, err)
		return err
	}
	weaves(t, s, c, clothByWords(s, c))
	return api.OK
}

// TestO3Drawn: threads and charts without order, those among them that O1 makes: the cloth's width and height, and each of its places, held against O3's words.
func TestO3Drawn(t *testing.T) {
	came := map[api.Errno]int{}
	for seed := range 4000 {
		s, m := drawnAsked(seed)
		next := strew(seed + 7)
		c := shownByWords(s, m)
		switch next(4) {
		case 0:
			c = changed(next, c, 1+next(2))
		case 1:
			c = changed(next, c, 0)
			at := next(len(c.Cells))
			c.Cells[at] = s.Ends[next(len(s.Ends))]
		}
		came[clothAsWords(t, s, c)]++
		isWovenByWords(t, s, c)
	}
	hasCome(t, came, 500, api.OK, api.ErrNone)
}

// isWovenByWords: where there is a cloth, it is as wide and as high as the picture, and the end lies above wherever its colour is the cell's.
func isWovenByWords(t *testing.T, s api.Strung, c api.Chart) {
	t.Helper()
	got, err := effect.Cloth(s, c)
	if err != api.OK {
		return
	}
	if got.Wide != c.Wide || got.High != c.High || len(got.Bits) != c.Wide*c.High {
		t.Fatalf("%s; %s: the cloth is %s", aboutThreads(s), aboutChart(c), aboutCloth(got))
	}
	for x, end := range s.Ends {
		for y := range s.Picks {
			if at := y*c.Wide + x; got.Bits[at] != (c.Cells[at] == end) {
				t.Errorf("%s; %s: in row %d at place %d is %v", aboutThreads(s), aboutChart(c), y, x, got.Bits[at])
			}
		}
	}
}

// TestO1And3ComeBack: a picture that Shown makes is woven again; the cloth is another one only where end and pick are of one colour, and shows it too.
func TestO1And3ComeBack(t *testing.T) {
	for seed := range 2000 {
		s, m := drawnAsked(seed)
		c, _ := effect.Shown(s, m)
		again, err := effect.Cloth(s, c)
		if err != api.OK {
			t.Fatalf("%s; %s: %d", aboutThreads(s), aboutCloth(m), err)
		}
		for at, above := range again.Bits {
			alike := s.Ends[at%c.Wide] == s.Picks[at/c.Wide]
			if alike && !above || !alike && above != m.Bits[at] {
				t.Errorf("%s; %s: at %d is %v", aboutThreads(s), aboutCloth(m), at, above)
			}
		}
		shows(t, s, again, c)
	}
}

// TestO2And3: threads that String finds weave the picture.
func TestO2And3(t *testing.T) {
	for seed := range 1000 {
		next := strew(seed)
		c := drawnPicture(next, 1+next(12), 1+next(12))
		s, err := effect.String(c)
		if err == api.OK {
			weaves(t, s, c, clothByWords(s, c))
		}
	}
}
