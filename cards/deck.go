package cards

import (
	"slices"

	"tapestry/api"
)

// deck is bytes that are read: at is the next one; once they cannot go on, where the fault is told.
type deck struct {
	bytes string
	at    int
}

func (d *deck) fault() api.Fault { return api.Fault{Err: api.ErrForm, At: d.at} }

// take reads a byte from least to most; where there is none it stays.
func (d *deck) take(least, most int) (int, bool) {
	if d.at == len(d.bytes) {
		return 0, false
	}
	n := int(d.bytes[d.at])
	if n < least || n > most {
		return 0, false
	}
	d.at++
	return n, true
}

// head reads what stands ahead of the cards.
func (d *deck) head() (wide, high int, ok bool) {
	for i := range len(mark) {
		if _, ok = d.take(int(mark[i]), int(mark[i])); !ok {
			return 0, 0, false
		}
	}
	if wide, ok = d.take(0, api.MaxTruth); !ok {
		return 0, 0, false
	}
	high, ok = d.take(0, api.MaxTruth)
	return wide, high, ok
}

// rows reads cards till they stand for all rows, and answers these, one behind the other.
func (d *deck) rows(wide, high int) ([]bool, bool) {
	bits := make([]bool, 0, wide*high)
	for y := 0; y < high; {
		from := d.at
		many, row, ok := d.card(wide, high-y)
		if !ok {
			return nil, false
		}
		if y > 0 && slices.Equal(row, bits[(y-1)*wide:]) {
			d.at = from
			return nil, false
		}
		for range many {
			bits = append(bits, row...)
		}
		y += many
	}
	return bits, true
}

// card reads a card: how many of the rows that are left it stands for, and one of them.
func (d *deck) card(wide, left int) (many int, row []bool, ok bool) {
	from := d.at
	if many, ok = d.take(1, left); !ok {
		return 0, nil, false
	}
	end := d.at + bytesOf(wide)
	if end > len(d.bytes) {
		d.at = len(d.bytes)
		return 0, nil, false
	}
	holes := d.bytes[d.at:end]
	row = unpunched(holes, wide)
	if punched(row) != holes {
		d.at = from
		return 0, nil, false
	}
	d.at = end
	return many, row, true
}

// end reads the last byte, behind which there may be none.
func (d *deck) end() bool {
	last := int(balance(d.bytes[:d.at]))
	_, ok := d.take(last, last)
	return ok && d.at == len(d.bytes)
}
