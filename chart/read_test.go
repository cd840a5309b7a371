package chart

import (
	"reflect"
	"regexp"
	"slices"
	"strings"
	"testing"
	"unicode/utf8"

	"tapestry/api"
)

// goesOn is what a chart's text may begin with; whole is all of one.
var (
	goesOn = regexp.MustCompile(`^(|[□△]|[□△]\n([` + allSigns + `]+\n)*[` + allSigns + `]*)$`)
	whole  = regexp.MustCompile(`^[□△]\n([` + allSigns + `]+\n)+$`)
)

// faultOf is the fault of a text by the words of C3: rune by rune, it is asked whether the text can go on so, and of each
// row that ends there whether it goes with the others.
func faultOf(s string) api.Fault {
	if len(s) > api.MaxText {
		return api.Fault{Err: api.ErrMuch}
	}
	for i, r := range s {
		n := utf8.RuneLen(r)
		if r == utf8.RuneError && !strings.HasPrefix(s[i:], "\uFFFD") || !goesOn.MatchString(s[:i+n]) {
			return api.Fault{Err: api.ErrForm, At: i}
		}
		if lines := strings.Split(s[:i], "\n"); r == '\n' && len(lines) > 1 {
			last, first := utf8.RuneCountInString(lines[len(lines)-1]), utf8.RuneCountInString(lines[1])
			at := i - len(lines[len(lines)-1])
			if last != first {
				return api.Fault{Err: api.ErrFit, At: at}
			}
			if last > api.MaxSide || len(lines)-1 > api.MaxSide {
				return api.Fault{Err: api.ErrMany, At: at}
			}
		}
	}
	if !whole.MatchString(s) {
		return api.Fault{Err: api.ErrForm, At: len(s)}
	}
	return api.Fault{}
}

// check holds what Read tells of a text against its fault, and against the text.
func check(t *testing.T, s string, want api.Fault) {
	t.Helper()
	c, fault := Read(s)
	if fault != want {
		t.Errorf("%.80q (%d bytes): %v, not %v", s, len(s), fault, want)
		return
	}
	if fault.Err != api.OK {
		if !reflect.DeepEqual(c, api.Chart{}) {
			t.Errorf("%.80q: beside %v stands %v", s, fault, c)
		}
		return
	}
	if back, err := Print(c); back != s || err != api.OK {
		t.Errorf("%.80q: read as %v, which is %q, %d", s, c, back, err)
	}
}

func TestC3Reads(t *testing.T) {
	for _, x := range []struct {
		s    string
		want api.Chart
	}{
		{"□\n·█\n", api.Chart{Grid: api.Square, Wide: 2, High: 1, Cells: []int{0, 1}}},
		{"△\nz\n", api.Chart{Grid: api.Hex, Wide: 1, High: 1, Cells: []int{61}}},
		{"△\nαω\n09\n·█\n", api.Chart{Grid: api.Hex, Wide: 2, High: 3, Cells: []int{0, 1, 2, 11, 12, 35}}},
		{"□\n" + allSigns + "\n", api.Chart{Grid: api.Square, Wide: 62, High: 1, Cells: chartUp(62)}},
	} {
		if c, fault := Read(x.s); !reflect.DeepEqual(c, x.want) || fault != (api.Fault{}) {
			t.Errorf("%q: %v %v, not %v", x.s, c, fault, x.want)
		}
	}
}

// chartUp are the numbers from 0 on below n.
func chartUp(n int) []int {
	var out []int
	for i := range n {
		out = append(out, i)
	}
	return out
}

func TestC3FaultsByHand(t *testing.T) {
	row := func(n int) string { return strings.Repeat("a", n) + "\n" }
	dots := func(n int) string { return strings.Repeat("█", n) + "\n" }
	for _, x := range []struct {
		s    string
		want api.Fault
	}{
		{"", api.Fault{Err: api.ErrForm, At: 0}},
		{"□", api.Fault{Err: api.ErrForm, At: 3}},
		{"□\n", api.Fault{Err: api.ErrForm, At: 4}},
		{"□\n·", api.Fault{Err: api.ErrForm, At: 6}},
		{"□\n·\n█", api.Fault{Err: api.ErrForm, At: 10}},
		{"\n", api.Fault{Err: api.ErrForm, At: 0}},
		{"·\n", api.Fault{Err: api.ErrForm, At: 0}},
		{"□□\n", api.Fault{Err: api.ErrForm, At: 3}},
		{"□\r\n·\n", api.Fault{Err: api.ErrForm, At: 3}},
		{"□\n·\r\n", api.Fault{Err: api.ErrForm, At: 6}},
		{"□\n\n", api.Fault{Err: api.ErrForm, At: 4}},
		{"□\n·\n\n", api.Fault{Err: api.ErrForm, At: 7}},
		{"□\n·\n\n·\n", api.Fault{Err: api.ErrForm, At: 7}},
		{"□\n·ς\n", api.Fault{Err: api.ErrForm, At: 6}},
		{"□\n·□\n", api.Fault{Err: api.ErrForm, At: 6}},
		{"\xe2\x96", api.Fault{Err: api.ErrForm, At: 0}},
		{"□\n·\xc2", api.Fault{Err: api.ErrForm, At: 6}},
		{"□\n\xe2\x96\n", api.Fault{Err: api.ErrForm, At: 4}},
		{"□\n\xff\n", api.Fault{Err: api.ErrForm, At: 4}},
		{"□\n\uFFFD\n", api.Fault{Err: api.ErrForm, At: 4}},
		// A row is held against the first one only when it has been read.
		{"□\naa\na\n", api.Fault{Err: api.ErrFit, At: 7}},
		{"□\naa\naaa\n", api.Fault{Err: api.ErrFit, At: 7}},
		{"□\naa\nbb\na\n", api.Fault{Err: api.ErrFit, At: 10}},
		{"□\naa\na", api.Fault{Err: api.ErrForm, At: 8}},
		{"□\naa\naaa", api.Fault{Err: api.ErrForm, At: 10}},
		{"□\naa\na?\n", api.Fault{Err: api.ErrForm, At: 8}},
		{"□\naa\na\n?", api.Fault{Err: api.ErrFit, At: 7}},
		{"□\n██\n··\n█·\n", api.Fault{}}, // as wide in signs, not in bytes
		{"□\n██\n···\n", api.Fault{Err: api.ErrFit, At: 11}},
		{"□\n" + row(64), api.Fault{}},
		{"□\n" + row(65), api.Fault{Err: api.ErrMany, At: 4}},
		{"□\n" + dots(64) + dots(64), api.Fault{}},
		{"□\n" + dots(65), api.Fault{Err: api.ErrMany, At: 4}},
		{"□\n" + row(65)[:65], api.Fault{Err: api.ErrForm, At: 69}},
		{"□\n" + row(65)[:65] + "?\n", api.Fault{Err: api.ErrForm, At: 69}},
		{"□\n" + row(65) + "?\n", api.Fault{Err: api.ErrMany, At: 4}},
		{"□\n" + row(64) + row(65), api.Fault{Err: api.ErrFit, At: 69}},
		{"□\n" + strings.Repeat(row(1), 64), api.Fault{}},
		{"□\n" + strings.Repeat(row(64), 64), api.Fault{}},
		{"□\n" + strings.Repeat(row(1), 65), api.Fault{Err: api.ErrMany, At: 4 + 128}},
		{"□\n" + strings.Repeat(row(1), 64) + row(2), api.Fault{Err: api.ErrFit, At: 4 + 128}},
		{"□\n" + strings.Repeat(row(1), 64) + "a", api.Fault{Err: api.ErrForm, At: 4 + 129}},
		{"□\n" + strings.Repeat(row(1), 64) + "\n", api.Fault{Err: api.ErrForm, At: 4 + 128}},
		{"□\n" + strings.Repeat(row(1), 66), api.Fault{Err: api.ErrMany, At: 4 + 128}},
	} {
		check(t, x.s, x.want)
		if by := faultOf(x.s); by != x.want {
			t.Errorf("%.80q: by the words %v, not %v", x.s, by, x.want)
		}
	}
}

func TestC3LongTexts(t *testing.T) {
	long := "□\n" + strings.Repeat("a", api.MaxText-5) + "\n"
	check(t, long, api.Fault{Err: api.ErrMany, At: 4})
	check(t, long+"\n", api.Fault{Err: api.ErrMuch})
	check(t, long[:api.MaxText-1], api.Fault{Err: api.ErrForm, At: api.MaxText - 1})
	check(t, long[:api.MaxText-1]+"b", api.Fault{Err: api.ErrForm, At: api.MaxText})
	check(t, long[:api.MaxText-1]+"?", api.Fault{Err: api.ErrForm, At: api.MaxText - 1})
	check(t, strings.Repeat("?", api.MaxText), api.Fault{Err: api.ErrForm})
	check(t, strings.Repeat("?", api.MaxText+1), api.Fault{Err: api.ErrMuch})
	check(t, strings.Repeat("\xff", 1<<20), api.Fault{Err: api.ErrMuch})
}

func TestC3AllShortTexts(t *testing.T) {
	parts := []string{"□", "△", "\n", "·", "a", "?", "\xc2", "\xe2\x96", "\x88"}
	texts := []string{""}
	for range 5 {
		var longer []string
		for _, s := range texts {
			for _, p := range parts {
				longer = append(longer, s+p)
			}
		}
		for _, s := range longer {
			check(t, s, faultOf(s))
		}
		texts = longer
	}
}

func TestC3AllEndingsOfRows(t *testing.T) {
	parts := []string{"\n", "█", "ω", "ς", "\xcf"}
	texts := []string{"□\n", "△\n"}
	for range 7 {
		var longer []string
		for _, s := range texts {
			for _, p := range parts {
				longer = append(longer, s+p)
			}
		}
		for _, s := range longer {
			check(t, s, faultOf(s))
		}
		texts = slices.DeleteFunc(longer, func(s string) bool { return faultOf(s).Err == api.ErrForm && faultOf(s).At < len(s)-3 })
	}
}

func TestC3EachPlaceOfOneChart(t *testing.T) {
	good := "△\n·█09\nασωa\nzρ█·\n"
	check(t, good, api.Fault{})
	for i := range len(good) {
		check(t, good[:i], faultOf(good[:i]))
		for b := range 256 { // in place of a byte, and put in ahead of it
			check(t, good[:i]+string([]byte{byte(b)})+good[i+1:], faultOf(good[:i]+string([]byte{byte(b)})+good[i+1:]))
			check(t, good[:i]+string([]byte{byte(b)})+good[i:], faultOf(good[:i]+string([]byte{byte(b)})+good[i:]))
		}
		check(t, good[:i]+good[i+1:], faultOf(good[:i]+good[i+1:]))
	}
}

func TestC3CellsAreTheCallersOwn(t *testing.T) {
	s := "□\nab\ncd\n"
	first, _ := Read(s)
	second, _ := Read(s)
	clear(first.Cells[:cap(first.Cells)])
	if !slices.Equal(second.Cells, []int{38, 39, 36, 37}) {
		t.Errorf("%v", second.Cells)
	}
}
