package sett_test

import (
	"slices"
	"testing"

	"tapestry/api"
	"tapestry/sett"
)

// TestI3ByHand: texts written out.
func TestI3ByHand(t *testing.T) {
	for _, x := range []struct {
		s    api.Sett
		want string
	}{
		{over(stripe(0, 1)), "·1"},
		{over(stripe(1, 2)), "█2"},
		{over(stripe(2, 3)), "03"},
		{over(stripe(11, 12)), "912"},
		{over(stripe(12, 345)), "α345"},
		{over(stripe(35, 4096)), "ω4096"},
		{over(stripe(61, 10)), "z10"},
		{over(stripe(a, 4), stripe(b, 2)), "a4 b2"},
		{over(stripe(a, 4), stripe(a, 2), stripe(a, 1)), "a4 a2 a1"},
		{over(stripe(2, 1), stripe(2, 10), stripe(2, 100), stripe(2, 1000)), "01 010 0100 01000"},
		{back(stripe(a, 4), stripe(b, 2)), "/a4 b2/"},
		{back(stripe(a, 4), stripe(b, 2), stripe(0, 1)), "/a4 b2 ·1/"},
		{back(stripe(0, 1), stripe(1, 1)), "/·1 █1/"},
		{back(stripe(a, 1), stripe(a, 1)), "/a1 a1/"},
		{back(stripe(a, 1), stripe(b, 2047), stripe(c, 1)), "/a1 b2047 c1/"},
	} {
		prints(t, x.s, x.want)
	}
}

// TestI3Signs: each of the colours' signs.
func TestI3Signs(t *testing.T) {
	l := []rune("·█0123456789αβγδεζηθικλμνξοπρστυφχψωabcdefghijklmnopqrstuvwxyz")
	if len(l) != api.MaxColour {
		t.Fatalf("%d signs", len(l))
	}
	all := ""
	for colour, r := range l {
		prints(t, over(stripe(colour, 7)), string(r)+"7")
		prints(t, back(stripe(colour, 7), stripe(0, 40)), "/"+string(r)+"7 ·40/")
		all += " " + string(r) + "1"
	}
	prints(t, over(narrow(62)...), all[1:])
	prints(t, back(narrow(62)...), "/"+all[1:]+"/")
}

// TestI3Counts: each count, in digits, without noughts ahead.
func TestI3Counts(t *testing.T) {
	digits := []byte("0")
	for n := 1; n <= 4096; n++ {
		at := len(digits) - 1
		for at >= 0 && digits[at] == '9' {
			digits[at] = '0'
			at--
		}
		if at < 0 {
			digits, at = append([]byte("0"), digits...), 0
		}
		digits[at]++
		prints(t, over(stripe(2, n)), "0"+string(digits))
		if n < 4096 {
			prints(t, back(stripe(35, n), stripe(3, 1)), "/ω"+string(digits)+" 11/")
		}
	}
}

// TestI3Wrong: what is wrong, for each kind of it, and no text beside it.
func TestI3Wrong(t *testing.T) {
	for _, x := range []struct {
		s    api.Sett
		want api.Errno
	}{
		{over(), api.ErrMany},
		{back(), api.ErrMany},
		{back(stripe(a, 1)), api.ErrMany},
		{over(narrow(257)...), api.ErrMany},
		{over(stripe(-1, 1)), api.ErrRange},
		{over(stripe(62, 1)), api.ErrRange},
		{back(stripe(a, 1), stripe(b, 0)), api.ErrRange},
		{back(stripe(a, 4097), stripe(b, 1)), api.ErrRange},
		{over(stripe(a, 4096), stripe(b, 1)), api.ErrMuch},
		{back(stripe(a, 1), stripe(b, 2048), stripe(c, 1)), api.ErrMuch},
	} {
		if got, err := sett.Print(x.s); got != "" || err != x.want {
			t.Errorf("%s: %.40q, %d, not %d", about(x.s), got, err, x.want)
		}
		if got, err := sett.Threads(x.s); len(got) != 0 || err != x.want {
			t.Errorf("%s: %s, %d, not %d", about(x.s), few(got), err, x.want)
		}
	}
}

// TestI3Drawn: setts without order, written by I3's words.
func TestI3Drawn(t *testing.T) {
	for seed := range 4000 {
		s := drawn(seed)
		if wrongByWords(s) == api.OK {
			prints(t, s, printByWords(s))
		}
	}
	for _, s := range []api.Sett{over(narrow(256)...), back(narrow(256)...), over(counts(slices.Repeat([]int{16}, 256)...)...)} {
		prints(t, s, printByWords(s))
	}
}
