package house_test

import (
	"strings"
	"testing"

	"tapestry/api"
	"tapestry/chart"
	"tapestry/house"
)

// TestU1Faults: each fault, with its place; that of Read is Read's own; beside it all is zero.
func TestU1Faults(t *testing.T) {
	for _, x := range wrongTexts() {
		got, fault := house.Make(x.text)
		isThat(t, x.text, got, fault, api.Made{}, x.fault)
		isMade(t, x.text)
		if _, said := chart.Read(x.text); said.Err != api.OK && said != x.fault {
			t.Errorf("%.50q: Read tells %v, not %v", x.text, said, x.fault)
		}
	}
}

// TestU1NoTorus: what Read takes and Kind does not is told at 0, whichever of the sides makes the torus too large; those beside are taken.
func TestU1NoTorus(t *testing.T) {
	for wide := 1; wide <= api.MaxSide; wide++ {
		for _, high := range []int{1, 2, 3, 5, 24, 25, 48, 64} {
			for _, sides := range [][2]int{{wide, high}, {high, wide}} {
				want := api.Fault{}
				if torus(wide, high) > api.MaxTorus {
					want.Err = api.ErrMuch
				}
				text := written(chartOf(4+2*(wide%2), sides[0], sides[1], func(x, y int) int { return (x*x + 3*y*y*y) % 5 }))
				if _, fault := house.Make(text); fault != want {
					t.Errorf("%d by %d: %v, not %v", sides[0], sides[1], fault, want)
				}
			}
		}
	}
}

// TestE4ReadFirst: a fault of Read is told also where the rows ahead of it make a torus too large.
func TestE4ReadFirst(t *testing.T) {
	row := strings.Repeat("0", 25)
	for _, x := range []struct {
		text  string
		fault api.Fault
	}{
		{"□\n" + row + "\n", api.Fault{Err: api.ErrMuch, At: 0}},
		{"□\n" + row, api.Fault{Err: api.ErrForm, At: 29}},
		{"□\n" + row + "\n?", api.Fault{Err: api.ErrForm, At: 30}},
		{"□\n" + row + "\n" + row + "0\n", api.Fault{Err: api.ErrFit, At: 30}},
		{"□\n" + strings.Repeat(row+"\n", 65), api.Fault{Err: api.ErrMany, At: 4 + 64*26}},
		{"□\n" + row + strings.Repeat("0", 65510), api.Fault{Err: api.ErrMuch, At: 0}},
		{"□\n" + strings.Repeat(row+"\n", 64), api.Fault{Err: api.ErrMuch, At: 0}},
	} {
		got, fault := house.Make(x.text)
		isThat(t, x.text, got, fault, api.Made{}, x.fault)
	}
}

// TestU1EachByte: a right text with each byte changed, put in, or taken away, or that ends there.
func TestU1EachByte(t *testing.T) {
	for _, text := range []string{"□\n·█\n█·\n", "△\nω0z\n··a\n", "□\nα\n"} {
		for at := range len(text) + 1 {
			isMade(t, text[:at])
			for b := range 256 {
				isMade(t, text[:at]+string([]byte{byte(b)})+text[at:])
				if at < len(text) {
					isMade(t, text[:at]+string([]byte{byte(b)})+text[at+1:])
				}
			}
			if at < len(text) {
				isMade(t, text[:at]+text[at+1:])
			}
		}
	}
}

// TestE1AnyText: whatever it is given, Make ends, and tells what the words say.
func TestE1AnyText(t *testing.T) {
	parts := []string{"□", "△", "\n", "·", "█", "0", "9", "ω", "ς", "z", "\xe2", "\x00", "?", "\r", "·█\n", "█·\n", strings.Repeat("0", 24), strings.Repeat("a", 65)}
	for seed := range 6000 {
		text := []string{"", "□\n", "△\n"}[seed%3]
		for n := range strewn(9, 20*seed) {
			text += parts[strewn(len(parts), 20*seed+1+n)]
		}
		isMade(t, text)
	}
}

// textsOf are so many right texts.
func textsOf(many int) (out []string) {
	for i := range many {
		out = append(out, []string{"□\n·█\n█·\n", "△\n·\n", "□\n0\n·\n", "□\nx·\n"}[i%4])
	}
	return out
}

// TestU2WrongMany: MaxJobs texts, and more.
func TestU2WrongMany(t *testing.T) {
	for _, hands := range []int{1, 2, 15, 16} {
		for _, many := range []int{0, 1, 2, 63, 64} {
			isWorked(t, textsOf(many), hands)
		}
		for _, many := range []int{65, 66, 128, 256, 257, 320, 65536} {
			workTells(t, textsOf(many), hands, api.ErrMany)
			workTells(t, make([]string, many), hands, api.ErrMany)
		}
	}
}

// TestU2WrongHands: hands at their bounds, and beyond them, with texts or without.
func TestU2WrongHands(t *testing.T) {
	for _, many := range []int{0, 1, 2, 17, 64} {
		for hands := 1; hands <= 16; hands++ {
			isWorked(t, textsOf(many), hands)
		}
		for _, hands := range wrongHands() {
			workTells(t, textsOf(many), hands, api.ErrRange)
			workTells(t, make([]string, many), hands, api.ErrRange)
		}
	}
}

// TestE4ManyFirst: too many texts, and hands that can't be: that there are too many is told.
func TestE4ManyFirst(t *testing.T) {
	for _, many := range []int{65, 66, 1000} {
		for _, hands := range wrongHands() {
			workTells(t, textsOf(many), hands, api.ErrMany)
			workTells(t, make([]string, many), hands, api.ErrMany)
		}
	}
}
