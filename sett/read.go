package sett

import (
	"strconv"
	"strings"

	"tapestry/api"
	"tapestry/chart"
)

// reader is a text that is read: at is the next byte.
type reader struct {
	text string
	at   int
}

// wrong is a fault at the next byte.
func (r *reader) wrong(err api.Errno) api.Fault { return api.Fault{Err: err, At: r.at} }

// take reads a byte, if it is the next one.
func (r *reader) take(b byte) bool {
	if r.at == len(r.text) || r.text[r.at] != b {
		return false
	}
	r.at++
	return true
}

// sett reads the whole text; what is wrong with its sett is not asked.
func (r *reader) sett() (api.Sett, api.Fault) {
	s := api.Sett{Pivot: r.take('/')}
	for len(s.Stripes) == 0 || r.take(' ') {
		from := r.at
		stripe, fault := r.stripe()
		if fault.Err != api.OK {
			return api.Sett{}, fault
		}
		if len(s.Stripes) == api.MaxStripes {
			return api.Sett{}, api.Fault{Err: api.ErrMany, At: from}
		}
		s.Stripes = append(s.Stripes, stripe)
	}
	if s.Pivot && !r.take('/') || r.at < len(r.text) {
		return api.Sett{}, r.wrong(api.ErrForm)
	}
	return s, api.Fault{}
}

// stripe reads a sign and its count.
func (r *reader) stripe() (api.Stripe, api.Fault) {
	colour, bytes := chart.Colour(r.text[r.at:])
	if bytes == 0 {
		return api.Stripe{}, r.wrong(api.ErrForm)
	}
	r.at += bytes
	count, err := r.count()
	if err != api.OK {
		return api.Stripe{}, r.wrong(err)
	}
	return api.Stripe{Colour: colour, Count: count}, api.Fault{}
}

// count reads digits; where they are no count it stays.
func (r *reader) count() (int, api.Errno) {
	rest := r.text[r.at:]
	digits := rest[:len(rest)-len(strings.TrimLeft(rest, "0123456789"))]
	if digits == "" || digits[0] == '0' {
		return 0, api.ErrForm
	}
	n, err := strconv.Atoi(digits)
	if err != nil || n > api.MaxThreads {
		return 0, api.ErrRange
	}
	r.at += len(digits)
	return n, api.OK
}
