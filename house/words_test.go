package house_test

import (
	"fmt"
	"math"
	"reflect"
	"slices"
	"strings"
	"testing"
	"time"

	"tapestry/api"
	"tapestry/cards"
	"tapestry/chart"
	"tapestry/cloth"
	"tapestry/draft"
	"tapestry/group"
	"tapestry/house"
	"tapestry/kind"
	"tapestry/plane"
	"tapestry/truth"
)

// What the promises say, in their own words, and patterns to hold them against.

// signs are those of the colours, from 0 on.
const signs = "·█0123456789αβγδεζηθικλμνξοπρστυφχψωabcdefghijklmnopqrstuvwxyz"

// written is a chart in words: the highest row first.
func written(c api.Chart) string {
	sign := []rune(signs)
	out := map[int]string{4: "□\n", 6: "△\n"}[c.Grid]
	for y := c.High - 1; y >= 0; y-- {
		for x := range c.Wide {
			out += string(sign[c.Cells[y*c.Wide+x]])
		}
		out += "\n"
	}
	return out
}

// clothOf is the cloth of a pattern in words: the lowest row is told last, and all but the first sign hold.
func clothOf(text string) api.Truth {
	rows := strings.Split(strings.TrimSuffix(text, "\n"), "\n")[1:]
	slices.Reverse(rows)
	out := api.Truth{High: len(rows)}
	for _, row := range rows {
		out.Wide = 0
		for _, sign := range row {
			out.Bits = append(out.Bits, sign != '·')
			out.Wide++
		}
	}
	return out
}

// mustBe stops the tests where one of the other layers tells an error that U1 has no room for.
func mustBe(well bool, text string) {
	if !well {
		panic(fmt.Sprintf("a layer that %q is asked of tells an error that U1 does not name", text))
	}
}

// makeByWords is what U1's words say.
func makeByWords(text string) (out api.Made, fault api.Fault) {
	c, fault := chart.Read(text)
	if fault.Err != api.OK {
		return api.Made{}, fault
	}
	k, err := kind.Kind(c)
	if err != api.OK {
		return api.Made{}, api.Fault{Err: err, At: 0}
	}
	out.Kind, err = kind.Name(k)
	mustBe(err == api.OK, text)
	domain, err := group.Domain(c)
	mustBe(err == api.OK, text)
	out.Points = len(domain)
	m := clothOf(text)
	out.Draft, err = draft.Fewest(m)
	mustBe(err == api.OK, text)
	out.Hangs, err = cloth.Hangs(m)
	mustBe(err == api.OK, text)
	out.Lift, err = cloth.Lift(m)
	mustBe(err == api.OK, text)
	out.Down, out.Along, err = truth.Floats(m)
	mustBe(err == api.OK, text)
	out.Cards, err = cards.Pack(m)
	mustBe(err == api.OK, text)
	return out, fault
}

func sameTruth(one, other api.Truth) bool {
	return one.Wide == other.Wide && one.High == other.High && slices.Equal(one.Bits, other.Bits)
}

// differences are the fields of which one tells something else than another.
func differences(one, other api.Made) (out []string) {
	for field, same := range map[string]bool{
		"Kind":            one.Kind == other.Kind,
		"Points":          one.Points == other.Points,
		"Draft.Threading": slices.Equal(one.Draft.Threading, other.Draft.Threading),
		"Draft.Tie":       sameTruth(one.Draft.Tie, other.Draft.Tie),
		"Draft.Treadling": slices.Equal(one.Draft.Treadling, other.Draft.Treadling),
		"Hangs":           one.Hangs == other.Hangs,
		"Lift":            slices.Equal(one.Lift, other.Lift),
		"Down":            one.Down == other.Down,
		"Along":           one.Along == other.Along,
		"Cards":           one.Cards == other.Cards,
	} {
		if !same {
			out = append(out, field)
		}
	}
	return out
}

// isThat holds what is told of a text against what is wanted; beside a fault all must be zero.
func isThat(t *testing.T, text string, got api.Made, fault api.Fault, want api.Made, wantFault api.Fault) {
	t.Helper()
	if fault != wantFault {
		t.Errorf("%.300q: fault %v, not %v", text, fault, wantFault)
	}
	if wantFault.Err != api.OK && !reflect.DeepEqual(got, api.Made{}) {
		t.Errorf("%.300q: beside the fault %v comes %v", text, fault, got)
	}
	for _, field := range differences(got, want) {
		t.Errorf("%.300q: other %s:\n%#v, not\n%#v", text, field, got, want)
	}
}

// isMade holds what Make tells against U1's words, and what it makes against the cloth that is wanted.
func isMade(t *testing.T, text string) api.Made {
	t.Helper()
	got, fault := house.Make(text)
	want, wantFault := makeByWords(text)
	isThat(t, text, got, fault, want, wantFault)
	if wantFault.Err == api.OK {
		isWovenSo(t, text, got)
	}
	return got
}

// isWovenSo: by its draft and by its cards comes the cloth of the pattern.
func isWovenSo(t *testing.T, text string, got api.Made) {
	t.Helper()
	want := clothOf(text)
	if m, err := draft.Drawdown(got.Draft); err != api.OK || !sameTruth(m, want) {
		t.Errorf("%.300q: by its draft comes %v, %d, not %v", text, m, err, want)
	}
	if m, fault := cards.Unpack(got.Cards); fault.Err != api.OK || !sameTruth(m, want) {
		t.Errorf("%.300q: by its cards comes %v, %v, not %v", text, m, fault, want)
	}
}

// workByWords is what U2's words say, one text behind the other.
func workByWords(texts []string) (made []api.Made, faults []api.Fault) {
	for _, text := range texts {
		one, fault := makeByWords(text)
		made, faults = append(made, one), append(faults, fault)
	}
	return made, faults
}

// isWorked holds what Work tells against U2's words.
func isWorked(t *testing.T, texts []string, hands int) {
	t.Helper()
	made, faults := workByWords(texts)
	comes(t, texts, hands, made, faults)
}

// comes holds what Work tells against what is wanted.
func comes(t *testing.T, texts []string, hands int, want []api.Made, wantFaults []api.Fault) {
	t.Helper()
	made, faults, err := house.Work(texts, hands)
	if err != api.OK || len(made) != len(want) || len(faults) != len(want) {
		t.Errorf("%d hands, %d texts: %d made, %d faults, %d", hands, len(texts), len(made), len(faults), err)
		return
	}
	for i, text := range texts {
		isThat(t, text, made[i], faults[i], want[i], wantFaults[i])
	}
}

// workTells: Work tells this error, and nothing beside it.
func workTells(t *testing.T, texts []string, hands int, want api.Errno) {
	t.Helper()
	made, faults, err := house.Work(texts, hands)
	if err != want || made != nil || faults != nil {
		t.Errorf("%d hands, %d texts: %d made, %d faults, %d, not %d", hands, len(texts), len(made), len(faults), err, want)
	}
}

// strewn is a number from 0 on below limit, another one for each seed.
func strewn(limit, seed int) int {
	x := uint64(seed)*0x9E3779B97F4A7C15 + 0xD1B54A32D192ED03
	x = (x ^ x>>30) * 0xBF58476D1CE4E5B9
	x = (x ^ x>>27) * 0x94D049BB133111EB
	return int((x ^ x>>31) % uint64(limit))
}

// chartOf is a chart whose colours a word tells.
func chartOf(grid, wide, high int, colour func(x, y int) int) api.Chart {
	c := api.Chart{Grid: grid, Wide: wide, High: high}
	for i := range wide * high {
		c.Cells = append(c.Cells, colour(i%wide, i/wide))
	}
	return c
}

// alike is a pattern whose cells are all of one colour.
func alike(grid, wide, high, colour int) string {
	return written(chartOf(grid, wide, high, func(x, y int) int { return colour }))
}

// sides are all pairs of sides of charts that come again on a torus of MaxTorus.
func sides() (out [][2]int) {
	for wide := 1; wide <= api.MaxTorus; wide++ {
		for high := 1; high <= api.MaxTorus; high++ {
			if torus(wide, high) <= api.MaxTorus {
				out = append(out, [2]int{wide, high})
			}
		}
	}
	return out
}

// torus is the least number of which both are divisors.
func torus(wide, high int) int {
	n := 1
	for n%wide != 0 || n%high != 0 {
		n++
	}
	return n
}

// drawnChart is a chart without order: of so many colours, 0 in so many of a hundred cells.
func drawnChart(grid, wide, high, colours, noughts, seed int) api.Chart {
	return chartOf(grid, wide, high, func(x, y int) int {
		n := 10000*seed + 64*y + x
		if strewn(100, n) < noughts {
			return 0
		}
		return strewn(colours, n+5000)
	})
}

// keptChart is a chart, as wide as high, that moves keep: all places that they take to one another are of one colour.
func keptChart(grid, side, colours int, moves []api.Move, seed int) api.Chart {
	first := make([]int, side*side)
	for i := range first {
		first[i] = i
	}
	for changed := true; changed; {
		changed = false
		for i := range first {
			for _, f := range moves {
				z, err := plane.Apply(grid, f, api.Point{X: i % side, Y: i / side})
				mustBe(err == api.OK, "a move")
				j := (z.Y%side+side)%side*side + (z.X%side+side)%side
				if first[i] != first[j] {
					first[i], first[j] = min(first[i], first[j]), min(first[i], first[j])
					changed = true
				}
			}
		}
	}
	return chartOf(grid, side, side, func(x, y int) int { return strewn(colours, 1000*seed+first[y*side+x]) })
}

// drawnMoves are a few moves of a grid, on a torus: many of them not moved on, or by half of the torus.
func drawnMoves(grid, side, seed int) (out []api.Move) {
	for n := range 1 + strewn(3, seed) {
		at := 100*seed + 10*n
		by := []int{0, 0, side / 2, strewn(side, at+1)}
		out = append(out, api.Move{
			Turn: strewn(grid, at+2),
			Flip: strewn(2, at+3) == 0,
			By:   api.Point{X: by[strewn(4, at+4)], Y: by[strewn(4, at+5)]},
		})
	}
	return out
}

// wrongTexts are texts with a fault, and which one Make tells: those of Read, then those of Kind.
func wrongTexts() []struct {
	text  string
	fault api.Fault
} {
	many := strings.Repeat
	return []struct {
		text  string
		fault api.Fault
	}{
		{"", api.Fault{Err: api.ErrForm, At: 0}},
		{"x", api.Fault{Err: api.ErrForm, At: 0}},
		{"\n·\n", api.Fault{Err: api.ErrForm, At: 0}},
		{" □\n·\n", api.Fault{Err: api.ErrForm, At: 0}},
		{"\xe2\x96", api.Fault{Err: api.ErrForm, At: 0}},
		{"□", api.Fault{Err: api.ErrForm, At: 3}},
		{"△△\n·\n", api.Fault{Err: api.ErrForm, At: 3}},
		{"△\r\n·\n", api.Fault{Err: api.ErrForm, At: 3}},
		{"□\n", api.Fault{Err: api.ErrForm, At: 4}},
		{"□\n\n", api.Fault{Err: api.ErrForm, At: 4}},
		{"□\nς\n", api.Fault{Err: api.ErrForm, At: 4}},
		{"□\nA\n", api.Fault{Err: api.ErrForm, At: 4}},
		{"□\n\xce", api.Fault{Err: api.ErrForm, At: 4}},
		{"□\n·", api.Fault{Err: api.ErrForm, At: 6}},
		{"□\n·\xff\n", api.Fault{Err: api.ErrForm, At: 6}},
		{"△\n·█ 0\n", api.Fault{Err: api.ErrForm, At: 9}},
		{"△\n·█\n?█\n", api.Fault{Err: api.ErrForm, At: 10}},
		{"△\n·█\n█·", api.Fault{Err: api.ErrForm, At: 15}},
		{"△\n·█\n█·\n\n", api.Fault{Err: api.ErrForm, At: 16}},
		{"□\n·█\n·\n", api.Fault{Err: api.ErrFit, At: 10}},
		{"□\n·\n·█\n", api.Fault{Err: api.ErrFit, At: 7}},
		{"□\n00\n11\n222\n3\n", api.Fault{Err: api.ErrFit, At: 10}},
		{"□\n" + many("0", 65) + "\n", api.Fault{Err: api.ErrMany, At: 4}},
		{"△\n" + many("ω", 65) + "\n?", api.Fault{Err: api.ErrMany, At: 4}},
		{"△\n" + many("0\n", 65), api.Fault{Err: api.ErrMany, At: 132}},
		{"△\n" + many("0\n", 64) + "00\n", api.Fault{Err: api.ErrFit, At: 132}},
		{"□\n" + many("0", 65533), api.Fault{Err: api.ErrMuch, At: 0}},
		{many("?", 65537), api.Fault{Err: api.ErrMuch, At: 0}},
		{"□\n" + many("0", 65532), api.Fault{Err: api.ErrForm, At: 65536}},
		{alike(4, 25, 1, 0), api.Fault{Err: api.ErrMuch, At: 0}},
		{alike(6, 1, 25, 1), api.Fault{Err: api.ErrMuch, At: 0}},
		{alike(4, 5, 7, 61), api.Fault{Err: api.ErrMuch, At: 0}},
		{alike(6, 24, 16, 2), api.Fault{Err: api.ErrMuch, At: 0}},
		{alike(4, 64, 64, 0), api.Fault{Err: api.ErrMuch, At: 0}},
	}
}

// someTexts are right patterns of unlike sizes, with one that takes long as the first, some that are alike, and some with faults among them.
func someTexts(many, seed int) (out []string) {
	wrong := wrongTexts()
	for i := range many {
		n := 1000*seed + 10*i
		side := [][2]int{{1, 1}, {2, 3}, {4, 4}, {6, 2}, {5, 5}, {1, 8}, {12, 4}}[strewn(7, n)]
		switch {
		case i == 0:
			out = append(out, alike(6, 8, 8, 0))
		case strewn(5, n+1) == 0:
			out = append(out, wrong[strewn(len(wrong), n+2)].text)
		case strewn(5, n+1) == 1:
			out = append(out, out[strewn(len(out), n+3)])
		default:
			out = append(out, written(drawnChart(4+2*strewn(2, n+4), side[0], side[1], 3, 40, n+5)))
		}
	}
	return out
}

// wrongHands are numbers that hands can't be, at int's own bounds and at those of shorter numbers too.
func wrongHands() []int {
	return []int{math.MinInt, math.MinInt + 1, -1<<32 + 1, math.MinInt32, -256, -17, -16, -2, -1, 0,
		api.MaxLooms + 1, api.MaxLooms + 2, 32, 256, 257, 65537, math.MaxInt32, 1<<32 + 1, 1 << 62, math.MaxInt - 1, math.MaxInt}
}

// ends lets a test's call fail, rather than go on for ever.
func ends(t *testing.T, call func()) {
	t.Helper()
	over := make(chan bool)
	go func() {
		defer close(over)
		call()
	}()
	select {
	case <-over:
	case <-time.After(4 * time.Minute):
		t.Fatal("it does not end")
	}
}
