package sett_test

import (
	"fmt"
	"regexp"
	"slices"
	"strings"
	"testing"

	"tapestry/api"
	"tapestry/sett"
)

// What the promises say, in their own words, and setts to hold them against.

func stripe(colour, count int) api.Stripe { return api.Stripe{Colour: colour, Count: count} }

// over is a sett that comes over and over, back one that goes there and back.
func over(l ...api.Stripe) api.Sett { return api.Sett{Stripes: l} }

func back(l ...api.Stripe) api.Sett { return api.Sett{Pivot: true, Stripes: l} }

// counts are stripes of so many threads each, of which no two side by side have one colour.
func counts(l ...int) []api.Stripe {
	var out []api.Stripe
	for i, n := range l {
		out = append(out, stripe(i%62, n))
	}
	return out
}

// narrow are so many stripes of one thread each.
func narrow(many int) []api.Stripe { return counts(slices.Repeat([]int{1}, many)...) }

// amidst are lists of so many narrow stripes, with this one as the first, in the middle and as the last.
func amidst(many int, x api.Stripe) [][]api.Stripe {
	var out [][]api.Stripe
	for _, at := range []int{0, many / 2, many - 1} {
		l := narrow(many)
		l[at] = x
		out = append(out, l)
	}
	return out
}

// comesOnce is I1: the threads of a sett that comes once.
func comesOnce(s api.Sett) []int {
	l := slices.Clone(s.Stripes)
	if s.Pivot {
		more := slices.Clone(s.Stripes[1 : len(s.Stripes)-1])
		slices.Reverse(more)
		l = slices.Concat(l, more)
	}
	var out []int
	for _, x := range l {
		out = append(out, slices.Repeat([]int{x.Colour}, x.Count)...)
	}
	return out
}

// wrongByWords is I1.
func wrongByWords(s api.Sett) api.Errno {
	many := len(s.Stripes)
	if many == 0 || many > 256 || many == 1 && s.Pivot {
		return api.ErrMany
	}
	for _, x := range s.Stripes {
		if !isColour(x.Colour) || x.Count < 1 || x.Count > 4096 {
			return api.ErrRange
		}
	}
	if manyOnce(s) > 4096 {
		return api.ErrMuch
	}
	return api.OK
}

// manyOnce is how many threads there are of a sett that comes once: with Pivot those of the first and the last stripe once, of all others twice.
func manyOnce(s api.Sett) int {
	all := 0
	for _, x := range s.Stripes {
		all += x.Count
	}
	if s.Pivot {
		return 2*all - s.Stripes[0].Count - s.Stripes[len(s.Stripes)-1].Count
	}
	return all
}

func isColour(n int) bool { return n >= 0 && n <= 61 }

// runsByWords is I2: it cuts threads wherever two side by side are unlike.
func runsByWords(threads []int) []api.Stripe {
	var out []api.Stripe
	for len(threads) > 0 {
		end := slices.IndexFunc(threads, func(n int) bool { return n != threads[0] })
		if end < 0 {
			end = len(threads)
		}
		out = append(out, stripe(threads[0], end))
		threads = threads[end:]
	}
	return out
}

// foldByWords is I2: run i is as run n - i for each i from 1 on below n, if the runs behind the first one are the same back to front.
func foldByWords(threads []int) (api.Sett, api.Errno) {
	for _, n := range threads {
		if !isColour(n) {
			return api.Sett{}, api.ErrRange
		}
	}
	s := over(runsByWords(threads)...)
	if n := len(s.Stripes); n > 0 && n%2 == 0 {
		behind := slices.Clone(s.Stripes[1:])
		slices.Reverse(behind)
		if slices.Equal(behind, s.Stripes[1:]) {
			s = back(s.Stripes[:n/2+1]...)
		}
	}
	if err := wrongByWords(s); err != api.OK {
		return api.Sett{}, err
	}
	return s, api.OK
}

// signs are those of the colours, from 0 on.
const signs = "·█0123456789αβγδεζηθικλμνξοπρστυφχψωabcdefghijklmnopqrstuvwxyz"

func sign(colour int) string { return string([]rune(signs)[colour]) }

// printByWords is I3.
func printByWords(s api.Sett) string {
	out := ""
	for i, x := range s.Stripes {
		if i > 0 {
			out += " "
		}
		out += fmt.Sprintf("%s%d", sign(x.Colour), x.Count)
	}
	if s.Pivot {
		return "/" + out + "/"
	}
	return out
}

// beginning is the longest beginning of a text that goes on, in some way, to a text that is well formed; the last part of it is a whole text with Pivot.
var beginning = longest(`^(?:/?(?:SC )*(?:SC?)?|/(?:SC )*SC/)`)

// wellFormed is a whole text.
var wellFormed = longest(`^(?:SC(?: SC)*|/SC(?: SC)*/)$`)

// eachStripe is a sign, and a count if there is one.
var eachStripe = longest(`SC?`)

func longest(s string) *regexp.Regexp {
	out := regexp.MustCompile(strings.NewReplacer("S", "["+signs+"]", "C", "(?:[1-9][0-9]*)").Replace(s))
	out.Longest()
	return out
}

// met is the first fault that is met in a text, and the stripes ahead of it; of a count that is too great, or a stripe too many, it is met when the count has been read.
func met(text string) ([]api.Stripe, api.Fault) {
	var out []api.Stripe
	good := text[:beginning.FindStringIndex(text)[1]]
	for i, at := range eachStripe.FindAllStringIndex(good, -1) {
		one := good[at[0]:at[1]]
		colour := []rune(one)[0]
		digits := strings.TrimPrefix(one, string(colour))
		switch {
		case digits == "":
		case len(digits) > 4 || len(digits) == 4 && digits > "4096":
			return nil, api.Fault{Err: api.ErrRange, At: at[1] - len(digits)}
		case i == 256:
			return nil, api.Fault{Err: api.ErrMany, At: at[0]}
		default:
			var n int
			fmt.Sscan(digits, &n)
			out = append(out, stripe(slices.Index([]rune(signs), colour), n))
		}
	}
	if !wellFormed.MatchString(text) {
		return nil, api.Fault{Err: api.ErrForm, At: len(good)}
	}
	return out, api.Fault{}
}

// readByWords is I4.
func readByWords(text string) (api.Sett, api.Fault) {
	if len(text) > 65536 {
		return api.Sett{}, api.Fault{Err: api.ErrMuch}
	}
	stripes, fault := met(text)
	s := api.Sett{Pivot: strings.HasPrefix(text, "/"), Stripes: stripes}
	if fault.Err == api.OK {
		fault.Err = wrongByWords(s)
	}
	if fault.Err != api.OK {
		return api.Sett{}, fault
	}
	return s, fault
}

func same(one, other api.Sett) bool {
	return one.Pivot == other.Pivot && slices.Equal(one.Stripes, other.Stripes)
}

// few is the beginning of what may be long, as a text.
func few[T any](l []T) string { return fmt.Sprintf("%d of them %v", len(l), l[:min(len(l), 12)]) }

// about is a sett as a text that is not too long.
func about(s api.Sett) string { return fmt.Sprint(s.Pivot, " ", few(s.Stripes)) }

// tells: what is wrong with a sett, as Wrong, Threads and Print tell it, and nothing beside it; OK is that all three do it.
func tells(t *testing.T, s api.Sett, want api.Errno) {
	t.Helper()
	if got := sett.Wrong(s); got != want {
		t.Errorf("%s: Wrong tells %d, not %d", about(s), got, want)
	}
	if l, err := sett.Threads(s); err != want || (err != api.OK) != (len(l) == 0) {
		t.Errorf("%s: Threads are %s, %d, not %d", about(s), few(l), err, want)
	}
	if text, err := sett.Print(s); err != want || (err != api.OK) != (text == "") {
		t.Errorf("%s: Print tells %.40q, %d, not %d", about(s), text, err, want)
	}
}

// hasThreads: the threads of a sett with which nothing is wrong.
func hasThreads(t *testing.T, s api.Sett, want []int) {
	t.Helper()
	tells(t, s, api.OK)
	if got, _ := sett.Threads(s); !slices.Equal(got, want) {
		t.Errorf("%s: threads %s, not %s", about(s), few(got), few(want))
	}
}

// foldsTo: the sett of threads, and nothing wrong.
func foldsTo(t *testing.T, threads []int, want api.Sett) {
	t.Helper()
	if got, err := sett.Fold(threads); err != api.OK || !same(got, want) {
		t.Errorf("%s: %s, %d, not %s", few(threads), about(got), err, about(want))
	}
}

// foldTells: what is wrong with threads, or with their sett, and nothing beside it.
func foldTells(t *testing.T, threads []int, want api.Errno) {
	t.Helper()
	if got, err := sett.Fold(threads); err != want || !same(got, api.Sett{}) {
		t.Errorf("%s: %s, %d, not %d", few(threads), about(got), err, want)
	}
}

// foldsAsWords holds Fold against I2, whatever the threads are, and tells what it says.
func foldsAsWords(t *testing.T, threads []int) api.Errno {
	t.Helper()
	want, err := foldByWords(threads)
	if err != api.OK {
		foldTells(t, threads, err)
		return err
	}
	foldsTo(t, threads, want)
	hasThreads(t, want, threads)
	return api.OK
}

// prints: how a sett is written, and that it is read so.
func prints(t *testing.T, s api.Sett, want string) {
	t.Helper()
	if got, err := sett.Print(s); err != api.OK || got != want {
		t.Errorf("%s: %.60q, %d, not %.60q", about(s), got, err, want)
	}
	reads(t, want, s)
}

// reads: the sett of a text, and nothing wrong.
func reads(t *testing.T, text string, want api.Sett) {
	t.Helper()
	got, fault := sett.Read(text)
	if fault != (api.Fault{}) || !same(got, want) {
		t.Errorf("%.60q: %s, %v, not %s", text, about(got), fault, about(want))
	}
}

// readTells: what is wrong with a text, and where, and nothing beside it.
func readTells(t *testing.T, text string, want api.Errno, at int) {
	t.Helper()
	got, fault := sett.Read(text)
	if fault != (api.Fault{Err: want, At: at}) || !same(got, api.Sett{}) {
		t.Errorf("%.60q: %s, %v, not %d at %d", text, about(got), fault, want, at)
	}
}

// readsAsWords holds Read against I4, whatever the text is, and tells what it says.
func readsAsWords(t *testing.T, text string) api.Errno {
	t.Helper()
	want, fault := readByWords(text)
	if fault.Err != api.OK {
		readTells(t, text, fault.Err, fault.At)
		return fault.Err
	}
	reads(t, text, want)
	if again, err := sett.Print(want); err != api.OK || again != text {
		t.Errorf("%.60q is printed as %.60q, %d", text, again, err)
	}
	return api.OK
}

// strew makes numbers without order; each seed makes others.
func strew(seed int) func(below int) int {
	s := uint64(seed)*2862933555777941757 + 3037000493
	return func(below int) int {
		s = s*6364136223846793005 + 1442695040888963407
		return int(s>>33) % below
	}
}
