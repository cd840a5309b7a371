package chart

import (
	"math"
	"strings"
	"testing"
	"unicode/utf8"

	"tapestry/api"
)

// allSigns are the signs of all colours, from 0 on, as the document lists them.
const allSigns = "·█0123456789αβγδεζηθικλμνξοπρστυφχψωabcdefghijklmnopqrstuvwxyz"

func TestC2SignOfEachColour(t *testing.T) {
	want := []rune(allSigns)
	if len(want) != api.MaxColour {
		t.Fatalf("%d signs", len(want))
	}
	for c, r := range want {
		if got := Sign(c); got != r {
			t.Errorf("%d: %q, not %q", c, got, r)
		}
	}
}

func TestC2NoSign(t *testing.T) {
	for _, c := range []int{-1, -2, api.MaxColour, api.MaxColour + 1, 1 << 32, 1<<32 + 2, -1 << 32, math.MinInt, math.MinInt + 1, math.MaxInt} {
		if got := Sign(c); got != '?' {
			t.Errorf("%d: %q", c, got)
		}
	}
}

func TestC2ColourOfEachRune(t *testing.T) {
	for r := rune(0); r <= 0x2FFFF; r++ {
		if !utf8.ValidRune(r) {
			continue
		}
		colour, n := 0, 0
		if at := strings.IndexRune(allSigns, r); at >= 0 {
			colour, n = utf8.RuneCountInString(allSigns[:at]), utf8.RuneLen(r)
		}
		for _, behind := range []string{"", "z", "█", "\n", "\xff"} {
			if c, m := Colour(string(r) + behind); c != colour || m != n {
				t.Errorf("%q: %d %d, not %d %d", string(r)+behind, c, m, colour, n)
			}
		}
	}
}

func TestC2ColourUndoesSign(t *testing.T) {
	for c := range api.MaxColour {
		s := string(Sign(c))
		if got, n := Colour(s); got != c || n != len(s) {
			t.Errorf("%d: %d %d", c, got, n)
		}
	}
}

func TestC2NoColour(t *testing.T) {
	texts := []string{"", "?", " a", "\na", "A", "Z", "/", ":", "`", "{", "ς", "ΰ", "ϊ", "Α", "Ω", "¶", "¸", "▇", "▉", "□", "△", "\uFFFD", "\x00", "\x80", "\xff"}
	texts = append(texts, "\xc1\xa1", "\xe0\x82\xb7", "\xf0\x82\x96\x88", "\xe0\x81\xa1") // signs with more bytes than they need
	for c := range api.MaxColour {
		s := string(Sign(c))
		for n := 1; n < len(s); n++ { // the beginning of a sign, and its end
			texts = append(texts, s[:n], s[:n]+"a", s[:n]+"\n", s[:n]+s, s[n:])
		}
	}
	for _, s := range texts {
		if c, n := Colour(s); c != 0 || n != 0 {
			t.Errorf("%q: %d %d", s, c, n)
		}
	}
}
