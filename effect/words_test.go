package effect_test

import (
	"fmt"
	"slices"
	"strings"
	"testing"
	"time"

	"tapestry/api"
	"tapestry/effect"
)

// What the promises say, in their own words, and threads, cloths and pictures to hold them against.

// signs are the colours of pictures that are written out here, from 0 on: digits, small letters, great letters.
const signs = "0123456789abcdefghijklmnopqrstuvwxyzABCDEFGHIJKLMNOPQRSTUVWXYZ"

// colours are those of a text.
func colours(text string) []int {
	var out []int
	for _, r := range text {
		out = append(out, strings.IndexRune(signs, r))
	}
	return out
}

// strung are threads: of the ends and of the picks.
func strung(ends, picks string) api.Strung {
	return api.Strung{Ends: colours(ends), Picks: colours(picks)}
}

// picture is a chart of squares; row 0 is the first one.
func picture(rows ...string) api.Chart {
	return chartOf(len(rows[0]), colours(strings.Join(rows, "")))
}

// chartOf is a chart of squares, so wide.
func chartOf(wide int, cells []int) api.Chart {
	return api.Chart{Grid: 4, Wide: wide, High: len(cells) / wide, Cells: cells}
}

// cloth is truths, where 1 is what holds; row 0 is the first one.
func cloth(rows ...string) api.Truth {
	out := api.Truth{Wide: len(rows[0]), High: len(rows)}
	for _, r := range strings.Join(rows, "") {
		out.Bits = append(out.Bits, r == '1')
	}
	return out
}

// filled is a cloth in which each end lies above each pick, or below.
func filled(wide, high int, above bool) api.Truth {
	return api.Truth{Wide: wide, High: high, Bits: slices.Repeat([]bool{above}, wide*high)}
}

// firstOf is the first error of some.
func firstOf(errs ...api.Errno) api.Errno {
	for _, err := range errs {
		if err != api.OK {
			return err
		}
	}
	return api.OK
}

// unless is an error, unless all is well.
func unless(well bool, err api.Errno) api.Errno {
	if well {
		return api.OK
	}
	return err
}

func within(n, least, most int) bool { return n >= least && n <= most }

// wrongThreads is what O1's words say of threads.
func wrongThreads(s api.Strung) api.Errno {
	beyond := func(n int) bool { return !within(n, 0, 61) }
	return firstOf(
		unless(within(len(s.Ends), 1, 64) && within(len(s.Picks), 1, 64), api.ErrMany),
		unless(!slices.ContainsFunc(slices.Concat(s.Ends, s.Picks), beyond), api.ErrRange))
}

// wrongTruth is what T1's words say.
func wrongTruth(m api.Truth) api.Errno {
	return firstOf(
		unless(within(m.Wide, 0, 64) && within(m.High, 0, 64), api.ErrRange),
		unless(m.Wide*m.High == len(m.Bits), api.ErrFit))
}

// wrongChart is what C1's words say.
func wrongChart(c api.Chart) api.Errno {
	beyond := func(n int) bool { return !within(n, 0, 61) }
	return firstOf(
		unless(c.Grid == 4 || c.Grid == 6, api.ErrKind),
		unless(within(c.Wide, 1, 64) && within(c.High, 1, 64), api.ErrRange),
		unless(c.Wide*c.High == len(c.Cells), api.ErrFit),
		unless(!slices.ContainsFunc(c.Cells, beyond), api.ErrRange))
}

// shownWrong is the first error that O1 names.
func shownWrong(s api.Strung, m api.Truth) api.Errno {
	return firstOf(wrongThreads(s), wrongTruth(m), unless(m.Wide == len(s.Ends) && m.High == len(s.Picks), api.ErrFit))
}

// stringWrong is the first error that O2 names, but for threads that there are none of.
func stringWrong(c api.Chart) api.Errno {
	return firstOf(wrongChart(c), unless(c.Grid == 4, api.ErrFit))
}

// clothWrong is the first error that O3 names.
func clothWrong(s api.Strung, c api.Chart) api.Errno {
	err := firstOf(wrongThreads(s), stringWrong(c), unless(c.Wide == len(s.Ends) && c.High == len(s.Picks), api.ErrFit))
	if err != api.OK {
		return err
	}
	return unless(someShows(s, c), api.ErrNone)
}

// someShows tells whether some cloth of these threads shows a picture: each cell is of its end's colour or of its pick's.
func someShows(s api.Strung, c api.Chart) bool {
	for i, cell := range c.Cells {
		if s.Ends[i%c.Wide] != cell && s.Picks[i/c.Wide] != cell {
			return false
		}
	}
	return true
}

// shownByWords is what O1's words say, where nothing is wrong.
func shownByWords(s api.Strung, m api.Truth) api.Chart {
	cells := make([]int, len(s.Ends)*len(s.Picks))
	for x := range s.Ends {
		for y := range s.Picks {
			at := x + y*len(s.Ends)
			cells[at] = map[bool]int{true: s.Ends[x], false: s.Picks[y]}[m.Bits[at]]
		}
	}
	return chartOf(len(s.Ends), cells)
}

// clothByWords is what O3's words say, where nothing is wrong.
func clothByWords(s api.Strung, c api.Chart) api.Truth {
	out := filled(c.Wide, c.High, false)
	for x, end := range s.Ends {
		for y := range s.Picks {
			out.Bits[x+y*c.Wide] = c.Cells[x+y*c.Wide] == end
		}
	}
	return out
}

// tried are the first threads, all of them of a few colours (rising), with which some cloth shows a picture: O2's words, by trying all of them, the colours of the ends and then of the picks from the least on.
func tried(c api.Chart, few []int) (api.Strung, bool) {
	all := make([]int, c.Wide+c.High)
	for i := range all {
		all[i] = few[0]
	}
	s := api.Strung{Ends: all[:c.Wide], Picks: all[c.Wide:]}
	for !someShows(s, c) {
		last := len(all) - 1
		for ; last >= 0 && all[last] == few[len(few)-1]; last-- {
			all[last] = few[0]
		}
		if last < 0 {
			return api.Strung{}, false
		}
		all[last] = few[slices.Index(few, all[last])+1]
	}
	return s, true
}

// search goes by O2's words end by end: all colours are tried for each, and it goes back where a pick would be wanted in two. Nothing is worked out ahead, but ways that have led nowhere are not gone twice.
type search struct {
	c    api.Chart
	dead map[string]bool
}

// searched are the first threads with which some cloth shows a picture.
func searched(c api.Chart) (api.Strung, bool) {
	s := search{c, map[string]bool{}}
	all, ok := s.from(0, slices.Repeat([]int{-1}, c.High))
	if !ok {
		return api.Strung{}, false
	}
	return api.Strung{Ends: all[:c.Wide:c.Wide], Picks: all[c.Wide:]}, true
}

// from are the first ends from this one on, and the picks behind them, if the ends ahead want the picks in these colours (-1: in any).
func (s *search) from(x int, wanted []int) ([]int, bool) {
	if x == s.c.Wide {
		return s.picks(wanted), true
	}
	way := fmt.Sprint(x, wanted)
	if s.dead[way] {
		return nil, false
	}
	for end := range 62 {
		if more, ok := s.want(x, end, wanted); ok {
			if behind, ok := s.from(x+1, more); ok {
				return slices.Concat([]int{end}, behind), true
			}
		}
	}
	s.dead[way] = true
	return nil, false
}

// want is in which colours the picks are wanted, if this end too has a colour; false, if one is wanted in two.
func (s *search) want(x, end int, wanted []int) ([]int, bool) {
	out := slices.Clone(wanted)
	for y := range out {
		cell := s.c.Cells[y*s.c.Wide+x]
		if cell == end || cell == out[y] {
			continue
		}
		if out[y] >= 0 {
			return nil, false
		}
		out[y] = cell
	}
	return out, true
}

// picks are the first ones: those that are wanted in any colour have 0.
func (s *search) picks(wanted []int) []int {
	out := slices.Clone(wanted)
	for y := range out {
		out[y] = max(out[y], 0)
	}
	return out
}

func sameThreads(one, other api.Strung) bool {
	return slices.Equal(one.Ends, other.Ends) && slices.Equal(one.Picks, other.Picks)
}

func sameChart(one, other api.Chart) bool {
	return one.Grid == other.Grid && one.Wide == other.Wide && one.High == other.High && slices.Equal(one.Cells, other.Cells)
}

func sameCloth(one, other api.Truth) bool {
	return one.Wide == other.Wide && one.High == other.High && slices.Equal(one.Bits, other.Bits)
}

// few is the beginning of what may be long, as a text.
func few[T any](l []T) string { return fmt.Sprintf("%d of them %v", len(l), l[:min(len(l), 16)]) }

// aboutThreads, aboutCloth and aboutChart are texts that are not too long.
func aboutThreads(s api.Strung) string { return "ends " + few(s.Ends) + ", picks " + few(s.Picks) }

func aboutCloth(m api.Truth) string {
	return fmt.Sprintf("%dx%d, bits %s", m.Wide, m.High, few(m.Bits))
}

func aboutChart(c api.Chart) string {
	return fmt.Sprintf("grid %d, %dx%d, cells %s", c.Grid, c.Wide, c.High, few(c.Cells))
}

// shows: what threads show in a cloth, and nothing wrong.
func shows(t *testing.T, s api.Strung, m api.Truth, want api.Chart) {
	t.Helper()
	if got, err := effect.Shown(s, m); err != api.OK || !sameChart(got, want) {
		t.Errorf("%s; %s: shown is %s, %d, not %s", aboutThreads(s), aboutCloth(m), aboutChart(got), err, aboutChart(want))
	}
}

// shownTells: what is wrong with threads or truths, and nothing beside it.
func shownTells(t *testing.T, s api.Strung, m api.Truth, want api.Errno) {
	t.Helper()
	got, err := effect.Shown(s, m)
	if err != want || want != api.OK && !sameChart(got, api.Chart{}) {
		t.Errorf("%s; %s: shown is %s, %d, not %d", aboutThreads(s), aboutCloth(m), aboutChart(got), err, want)
	}
}

// isStrung: the first threads of a picture, and nothing wrong.
func isStrung(t *testing.T, c api.Chart, want api.Strung) {
	t.Helper()
	if got, err := effect.String(c); err != api.OK || !sameThreads(got, want) {
		t.Errorf("%s: %s, %d, not %s", aboutChart(c), aboutThreads(got), err, aboutThreads(want))
	}
}

// stringTells: what is wrong with a picture, and nothing beside it.
func stringTells(t *testing.T, c api.Chart, want api.Errno) {
	t.Helper()
	got, err := effect.String(c)
	if err != want || want != api.OK && !sameThreads(got, api.Strung{}) {
		t.Errorf("%s: %s, %d, not %d", aboutChart(c), aboutThreads(got), err, want)
	}
}

// weaves: the cloth that shows a picture, and nothing wrong; it does show it.
func weaves(t *testing.T, s api.Strung, c api.Chart, want api.Truth) {
	t.Helper()
	if got, err := effect.Cloth(s, c); err != api.OK || !sameCloth(got, want) {
		t.Errorf("%s; %s: the cloth is %s, %d, not %s", aboutThreads(s), aboutChart(c), aboutCloth(got), err, aboutCloth(want))
	}
	shows(t, s, want, c)
}

// clothTells: what is wrong with threads or a picture, and nothing beside it.
func clothTells(t *testing.T, s api.Strung, c api.Chart, want api.Errno) {
	t.Helper()
	got, err := effect.Cloth(s, c)
	if err != want || want != api.OK && !sameCloth(got, api.Truth{}) {
		t.Errorf("%s; %s: the cloth is %s, %d, not %d", aboutThreads(s), aboutChart(c), aboutCloth(got), err, want)
	}
}

// ends: the call ends, within a time in which it should a hundred times over.
func ends(t *testing.T, call func()) {
	t.Helper()
	done := make(chan bool)
	go func() {
		defer close(done)
		call()
	}()
	select {
	case <-done:
	case <-time.After(2 * time.Minute):
		t.Fatal("it does not end")
	}
}

// strew makes numbers without order; each seed makes others.
func strew(seed int) func(below int) int {
	s := uint64(seed)*2862933555777941757 + 3037000493
	return func(below int) int {
		s = s*6364136223846793005 + 1442695040888963407
		return int(s>>33) % below
	}
}

// drawnThreads are so many ends and picks of so many colours, these without order too.
func drawnThreads(next func(below int) int, wide, high, many int) api.Strung {
	palette := make([]int, many)
	for i := range palette {
		palette[i] = next(62)
	}
	var s api.Strung
	for range wide {
		s.Ends = append(s.Ends, palette[next(many)])
	}
	for range high {
		s.Picks = append(s.Picks, palette[next(many)])
	}
	return s
}

// drawnCloth is one without order, in which about so many of eight ends lie above.
func drawnCloth(next func(below int) int, wide, high, eighths int) api.Truth {
	out := filled(wide, high, false)
	for i := range out.Bits {
		out.Bits[i] = next(8) < eighths
	}
	return out
}
