package sett_test

import (
	"slices"
	"strings"
	"testing"

	"tapestry/api"
)

// again is a text, over and over.
func again(s string, many int) string { return strings.Repeat(s, many) }

// TestI4LongTexts: more than MaxText bytes are too much, whatever they are; just so many are read.
func TestI4LongTexts(t *testing.T) {
	most := api.MaxText
	for _, x := range []struct {
		text string
		want api.Errno
		at   int
	}{
		{again(" ", most), api.ErrForm, 0},
		{again("/", most), api.ErrForm, 1},
		{again("a", most), api.ErrForm, 1},
		{again("0", most), api.ErrForm, 1},
		{again("\xff", most), api.ErrForm, 0},
		{again("·", most/2), api.ErrForm, 2},
		{again("1", most), api.ErrRange, 1},
		{"/" + again("9", most-1), api.ErrRange, 2},
		{"a1 b" + again("7", most-4), api.ErrRange, 4},
		{"a1" + again(" ", most-2), api.ErrForm, 3},
		{"/a1 b1/" + again("/", most-7), api.ErrForm, 7},
		{again("a1 ", most/3) + "a", api.ErrMany, 768},
		{"/" + again("a1 ", most/3), api.ErrMany, 769},
	} {
		if len(x.text) != most {
			t.Fatalf("%.20q has %d bytes", x.text, len(x.text))
		}
		readTells(t, x.text, x.want, x.at)
		for _, more := range []string{"a", " ", "1", "/", "\xff", "\x00"} {
			readTells(t, x.text+more, api.ErrMuch, 0)
			readTells(t, more+x.text, api.ErrMuch, 0)
		}
		readTells(t, again(x.text, 3), api.ErrMuch, 0)
	}
	readTells(t, "a1"+again("\x00", 1<<24), api.ErrMuch, 0)
}

// TestI4WellFormed: texts of each form.
func TestI4WellFormed(t *testing.T) {
	for _, x := range []struct {
		text string
		want api.Sett
	}{
		{"a1", over(stripe(a, 1))},
		{"a4096", over(stripe(a, 4096))},
		{"03", over(stripe(2, 3))},
		{"11", over(stripe(3, 1))},
		{"0100 110 91", over(stripe(2, 100), stripe(3, 10), stripe(11, 1))},
		{"a4 b2", over(stripe(a, 4), stripe(b, 2))},
		{"b2 a4", over(stripe(b, 2), stripe(a, 4))},
		{"a1 a1 a1", over(stripe(a, 1), stripe(a, 1), stripe(a, 1))},
		{"·1 █2 α3 ω4", over(stripe(0, 1), stripe(1, 2), stripe(12, 3), stripe(35, 4))},
		{"ρ1 σ1", over(stripe(28, 1), stripe(29, 1))},
		{"/a4 b2/", back(stripe(a, 4), stripe(b, 2))},
		{"/a4 b2 ·1/", back(stripe(a, 4), stripe(b, 2), stripe(0, 1))},
		{"/a1 a1/", back(stripe(a, 1), stripe(a, 1))},
		{"/█4095 ω1/", back(stripe(1, 4095), stripe(35, 1))},
		{again("a16 ", 255) + "b16", over(append(slices.Repeat([]api.Stripe{stripe(a, 16)}, 255), stripe(b, 16))...)},
		{"/" + again("a1 ", 255) + "b1/", back(append(slices.Repeat([]api.Stripe{stripe(a, 1)}, 255), stripe(b, 1))...)},
	} {
		prints(t, x.want, x.text)
		if by, fault := readByWords(x.text); fault != (api.Fault{}) || !same(by, x.want) {
			t.Errorf("%.60q: by the words %s, %v", x.text, about(by), fault)
		}
	}
}

// isTold: what is wrong with a text, and where, in the words' own reading too.
func isTold(t *testing.T, text string, want api.Errno, at int) {
	t.Helper()
	readTells(t, text, want, at)
	if _, fault := readByWords(text); fault != (api.Fault{Err: want, At: at}) {
		t.Errorf("%.60q: by the words %v, not %d at %d", text, fault, want, at)
	}
}

// TestI4Form: where a text cannot go on.
func TestI4Form(t *testing.T) {
	for _, x := range []struct {
		name, text string
		at         int
	}{
		{"nothing", "", 0},
		{"ends behind the first stroke", "/", 1},
		{"ends behind a sign", "a", 1},
		{"ends behind a sign of two bytes", "·", 2},
		{"ends behind a sign of three bytes", "█", 3},
		{"ends behind a sign that is a digit", "7", 1},
		{"ends behind a second sign", "a1 b", 4},
		{"ends behind a sign, with Pivot", "/a1 b", 5},
		{"ends behind a space", "a1 ", 3},
		{"ends behind a space, with Pivot", "/a1 ", 4},
		{"ends without the last stroke", "/a1", 3},
		{"ends without the last stroke, behind two stripes", "/a1 b2", 6},
		{"a space ahead", " a1", 0},
		{"a space ahead, with Pivot", "/ a1 b1/", 1},
		{"a space ahead of the first stroke", " /a1 b1/", 0},
		{"a space ahead of the last stroke", "/a1 b1 /", 7},
		{"a space behind the last stroke", "/a1 b1/ ", 7},
		{"two spaces", "a1  b1", 3},
		{"a space between sign and count", "a 1", 1},
		{"a line feed behind", "a1\n", 2},
		{"a line feed between", "a1\nb1", 2},
		{"a tab between", "a1\tb1", 2},
		{"nothing between", "a1b1", 2},
		{"a stripe behind the last stroke", "/a1 b1/c1", 7},
		{"a second last stroke", "/a1 b1//", 7},
		{"two strokes ahead", "//a1 b1/", 1},
		{"two strokes alone", "//", 1},
		{"a last stroke alone", "a1 b1/", 5},
		{"a last stroke alone, behind one stripe", "a1/", 2},
		{"a stroke between", "a1/ b1", 2},
		{"a stroke between, with Pivot", "/a1/ b1/", 4},
		{"a count ahead of its sign", "12a", 2},
		{"a count ahead of a sign of two bytes", "1α", 1},
		{"a count beside another one", "a1 2b", 4},
		{"no sign", "?1", 0},
		{"a great letter", "A1", 0},
		{"a great letter of Greek", "Α1", 0},
		{"the sigma that ends a word", "ς3", 0},
		{"no sign as the second one", "a1 ς3", 3},
		{"no sign, with Pivot", "/ς3 a1/", 1},
		{"a sign in place of a count", "aa", 1},
		{"below 0", "a-1", 1},
		{"with its sign", "a+1", 1},
		{"a point behind", "a1.5", 2},
		{"digits of others", "a١", 1},
		{"digits of others, behind one of ours", "a1²", 2},
		{"a nought byte", "\x00", 0},
		{"a nought byte behind", "a1\x00", 2},
		{"no text at all", "\xff\xfe", 0},
		{"no text in place of a count", "a\xff", 1},
		{"no text behind a count", "a1\xff", 2},
		{"no text as the second sign", "a1 \xff1", 3},
		{"ends within a sign of two bytes", "\xce", 0},
		{"ends within a sign of three bytes", "\xe2\x96", 0},
		{"ends within a second sign", "a1 \xce", 3},
		{"ends within a second sign of three bytes", "/a1 \xe2", 4},
		{"a sign cut off by a count", "\xe2\x961", 0},
		{"the end of a sign alone", "\x88" + "1", 0},
		{"a rune written with too many bytes", "\xc1\xa1" + "1", 0},
		{"the rune of no text", "\ufffd1", 0},
		{"a mark of byte order ahead", "\ufeffa1", 0},
		{"a stripe too many without a count, at the end", again("a1 ", 256) + "b", 769},
	} {
		t.Run(x.name, func(t *testing.T) { isTold(t, x.text, api.ErrForm, x.at) })
	}
}

// TestI4CountOfNought: where a count begins with 0, and what stands behind that, if anything.
func TestI4CountOfNought(t *testing.T) {
	for _, behind := range []string{"", "0", "1", "4096", "4097", again("9", 50), " ", " b1", "?", "/", "a"} {
		isTold(t, "a0"+behind, api.ErrForm, 1)
		isTold(t, "/a0"+behind, api.ErrForm, 2)
		isTold(t, "00"+behind, api.ErrForm, 1)
		isTold(t, "·0"+behind, api.ErrForm, 2)
		isTold(t, "a1 █0"+behind, api.ErrForm, 6)
		isTold(t, "/a1 b10 c0"+behind, api.ErrForm, 9)
	}
}

// TestI4GreatCounts: counts of MaxThreads, and above, however many digits they have.
func TestI4GreatCounts(t *testing.T) {
	for _, right := range []string{"1", "9", "10", "99", "999", "1000", "4000", "4095", "4096"} {
		if readsAsWords(t, "a"+right) != api.OK {
			t.Errorf("a%s is wrong", right)
		}
	}
	for _, wrong := range []string{"4097", "4098", "4100", "5000", "9999", "10000", "40960", "65537", "99999", "2147483647", "2147483648", "4294967296", "4294967297", "9223372036854775807", "9223372036854775808", "18446744073709551616", "18446744073709551617", "1" + again("0", 40), again("9", 60000)} {
		for _, behind := range []string{"", " ", " b1", "?", "/", "x", " b4097", " b0"} {
			isTold(t, "a"+wrong+behind, api.ErrRange, 1)
			isTold(t, "/a"+wrong+behind, api.ErrRange, 2)
			isTold(t, "ω"+wrong+behind, api.ErrRange, 2)
			isTold(t, "7"+wrong+behind, api.ErrRange, 1)
			isTold(t, "a1 █"+wrong+behind, api.ErrRange, 6)
			isTold(t, "/a1 b10 c"+wrong+behind, api.ErrRange, 9)
		}
	}
}

// TestI4ManyStripes: one more than MaxStripes is told where it begins, once its count has been read.
func TestI4ManyStripes(t *testing.T) {
	for _, x := range []struct {
		ahead string
		at    int
	}{{again("a1 ", 256), 768}, {again("α12 ", 256), 1280}, {again("█4096 ", 256), 2048}} {
		for _, s := range []string{"b1", "ω1", "b4096", "01"} {
			for _, behind := range []string{"", "?", " ", "  ", "/", " c", " c0", " c4097", " c1", "b1", again(" c1", 300)} {
				isTold(t, x.ahead+s+behind, api.ErrMany, x.at)
				isTold(t, "/"+x.ahead+s+behind, api.ErrMany, x.at+1)
			}
		}
		for _, stroke := range []string{"", "/"} {
			at := x.at + len(stroke)
			isTold(t, stroke+x.ahead, api.ErrForm, at)
			for _, sign := range []string{"b", "ω", "█", "7"} {
				begins := at + len(sign)
				isTold(t, stroke+x.ahead+sign, api.ErrForm, begins)
				isTold(t, stroke+x.ahead+sign+" c1", api.ErrForm, begins)
				isTold(t, stroke+x.ahead+sign+"0", api.ErrForm, begins)
				isTold(t, stroke+x.ahead+sign+"01", api.ErrForm, begins)
				isTold(t, stroke+x.ahead+sign+"4097", api.ErrRange, begins)
				isTold(t, stroke+x.ahead+sign+again("9", 30)+"?", api.ErrRange, begins)
			}
			isTold(t, stroke+x.ahead+"?1", api.ErrForm, at)
			isTold(t, stroke+x.ahead+" b1", api.ErrForm, at)
			isTold(t, stroke+x.ahead+"/", api.ErrForm, at)
		}
	}
	if readsAsWords(t, again("a1 ", 255)+"b1") != api.OK || readsAsWords(t, "/"+again("a1 ", 255)+"b1/") != api.OK {
		t.Error("MaxStripes stripes are wrong")
	}
}

// flaw is a stripe that is wrong, and at which of its bytes.
type flaw struct {
	text string
	err  api.Errno
	at   int
}

// TestI4MetFirst: of two stripes that are wrong the first one is told, whichever it is.
func TestI4MetFirst(t *testing.T) {
	flaws := []flaw{
		{"a", api.ErrForm, 1}, {"a0", api.ErrForm, 1}, {"a01", api.ErrForm, 1}, {"?1", api.ErrForm, 0}, {"", api.ErrForm, 0}, {"a1x", api.ErrForm, 2},
		{"█4097", api.ErrRange, 3}, {"a99999999999999999999", api.ErrRange, 1}, {"\xce", api.ErrForm, 0}, {"ς1", api.ErrForm, 0},
	}
	for _, one := range flaws {
		for _, other := range flaws {
			for _, ahead := range []string{"", "/", "b2 ", "/·3 ω4 "} {
				for _, between := range []string{" ", " c5 ", " c5 d6 "} {
					isTold(t, ahead+one.text+between+other.text+" e7", one.err, len(ahead)+one.at)
					isTold(t, ahead+one.text+between+other.text+"?", one.err, len(ahead)+one.at)
				}
			}
		}
		isTold(t, "/"+one.text+" b1", one.err, 1+one.at)
		isTold(t, one.text+" "+again("b1 ", 256)+"b1", one.err, one.at)
		isTold(t, again("b1 ", 257)+one.text, api.ErrMany, 768)
		if one.text != "a1x" { // its count can be read
			isTold(t, again("b1 ", 256)+one.text+" c1", one.err, 768+one.at)
		}
		isTold(t, again("b4096 ", 3)+one.text+" c1", one.err, 18+one.at)
	}
}

// TestI4WrongSett: what is wrong with a sett whose text is well formed is told at 0.
func TestI4WrongSett(t *testing.T) {
	for _, x := range []struct {
		text string
		want api.Errno
	}{
		{"/a4/", api.ErrMany},
		{"/·1/", api.ErrMany},
		{"/a4096/", api.ErrMany},
		{"a4096 b1", api.ErrMuch},
		{"b1 a4096", api.ErrMuch},
		{"a2048 b2048 c1", api.ErrMuch},
		{again("a4096 ", 255) + "b4096", api.ErrMuch},
		{again("a16 ", 255) + "b17", api.ErrMuch},
		{"/a4096 b1/", api.ErrMuch},
		{"/a1 b2047 c2/", api.ErrMuch},
		{"/a1 b2048 c1/", api.ErrMuch},
		{"/a2 b2047 c1/", api.ErrMuch},
		{"/a16 " + again("b8 ", 254) + "c17/", api.ErrMuch},
	} {
		isTold(t, x.text, x.want, 0)
	}
	for _, right := range []string{"a4096", "/a4095 b1/", "/a1 b2047 c1/", "a1 b2048 c1", again("a16 ", 255) + "b16", "/a16 " + again("b8 ", 254) + "c16/"} {
		if readsAsWords(t, right) != api.OK {
			t.Errorf("%.60q is wrong", right)
		}
	}
}

// TestI4EachPlace: each byte of a text another one, gone, or one more put ahead of it, and the text ending there.
func TestI4EachPlace(t *testing.T) {
	for _, good := range []string{"a4 b2", "/a4 ρ2 ·10/", "█1 04096", "/01 10 σ2 α300 ω4/", "α1", "/zz 11/", "/a4/"} {
		readsAsWords(t, good)
		for i := range len(good) + 1 {
			readsAsWords(t, good[:i])
			for n := range 256 {
				readsAsWords(t, good[:i]+string([]byte{byte(n)})+good[i:])
				if i < len(good) {
					readsAsWords(t, good[:i]+string([]byte{byte(n)})+good[i+1:])
				}
			}
			if i < len(good) {
				readsAsWords(t, good[:i]+good[i+1:])
			}
		}
	}
}

// TestI4AllShort: all texts of few parts.
func TestI4AllShort(t *testing.T) {
	for _, x := range []struct {
		parts []string
		most  int
	}{
		{[]string{"/", " ", "a", "0", "1", "·", "?", "\xce", "\xb1"}, 5},
		{[]string{"/", " ", "b", "0", "1"}, 7},
		{[]string{"/", " ", "b7", "ω4096", "4097"}, 6},
	} {
		texts := []string{""}
		for range x.most {
			var longer []string
			for _, s := range texts {
				for _, p := range x.parts {
					longer = append(longer, s+p)
				}
			}
			for _, s := range longer {
				readsAsWords(t, s)
			}
			texts = longer
		}
	}
}

// TestI4Drawn: texts of setts without order, some of them with parts changed, held against I4's words.
func TestI4Drawn(t *testing.T) {
	parts := []string{"", "", " ", "/", "a", "ω", "█", "ς", "0", "4097", "12", "9999999999999999999999", "\xff", "\xe2", "?", "a1 b2", " c3"}
	came := map[api.Errno]int{}
	for seed := range 12000 {
		next := strew(seed)
		s := drawn(next(3000))
		s.Stripes = slices.DeleteFunc(s.Stripes, func(x api.Stripe) bool { return !isColour(x.Colour) })
		text := printByWords(s)
		for range next(4) {
			at := next(len(text) + 1)
			end := min(len(text), at+next(4))
			text = text[:at] + parts[next(len(parts))] + text[end:]
		}
		came[readsAsWords(t, text)]++
	}
	for _, err := range []api.Errno{api.OK, api.ErrForm, api.ErrRange, api.ErrMuch, api.ErrMany} {
		if came[err] < 40 {
			t.Errorf("%d is drawn only %d times", err, came[err])
		}
	}
}
