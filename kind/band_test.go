package kind

import (
	"slices"
	"testing"

	"tapestry/api"
)

// bandAt is what stands at a point of a band: it goes on to the sides alone.
func bandAt(c api.Chart, x, y int) int { return c.Cells[y*c.Wide+modN(x, c.Wide)] }

// bandKeptByWords tells whether each point of a band stands on its own colour when it is taken to another one.
func bandKeptByWords(c api.Chart, to func(x, y int) (int, int)) bool {
	for y := range c.High {
		for x := -c.Wide; x < 2*c.Wide; x++ {
			p, q := to(x, y)
			if bandAt(c, x, y) != bandAt(c, p, q) {
				return false
			}
		}
	}
	return true
}

// bandByWords is the kind of a band by the words of K4.
func bandByWords(c api.Chart) int {
	u, r, g := false, false, false
	for n := -c.Wide; n <= 2*c.Wide; n++ {
		u = u || bandKeptByWords(c, func(x, y int) (int, int) { return n - x, y })
		r = r || bandKeptByWords(c, func(x, y int) (int, int) { return n - x, c.High - 1 - y })
	}
	l := bandKeptByWords(c, func(x, y int) (int, int) { return x, c.High - 1 - y })
	for n := 1; n <= c.Wide-1; n++ {
		g = g || bandKeptByWords(c, func(x, y int) (int, int) { return x + n, c.High - 1 - y })
	}
	var fit []int
	for kind, is := range map[int]bool{
		api.SpinningJump: u && l,
		api.SpinningSide: u && r && !l,
		api.SpinningHop:  r && !u,
		api.Sidle:        u && !r,
		api.Jump:         l && !u,
		api.Step:         g && !u && !r && !l,
		api.Hop:          !g && !u && !r && !l,
	} {
		if is {
			fit = append(fit, kind)
		}
	}
	if len(fit) != 1 {
		return 0
	}
	return fit[0]
}

// bands are bands of each kind.
var bands = []struct {
	kind int
	c    api.Chart
}{
	{api.Hop, rows(4, "0011", "0102")},
	{api.Hop, rows(4, "012", "000")},
	{api.Hop, rows(4, "100", "110", "000", "222")},
	{api.Step, rows(4, "012000", "000012")},
	{api.Step, rows(4, "1200", "0012")},
	{api.Step, rows(4, "1200", "3333", "0012")},
	{api.Step, rows(4, "12001200", "00120012")}, // a step of two, of six too
	{api.Jump, rows(4, "012")},
	{api.Jump, rows(4, "0011", "0102", "0011")},
	{api.Jump, rows(4, "0112", "0112")},
	{api.Sidle, rows(4, "010", "111", "000")},
	{api.Sidle, rows(4, "01", "23")},
	{api.Sidle, rows(4, "0110", "2332")},
	{api.Sidle, rows(4, "0", "1")},
	{api.Sidle, rows(4, "2030", "0101")},
	{api.SpinningHop, rows(4, "001", "100")},
	{api.SpinningHop, rows(4, "1100", "0102", "2010", "0011")},
	{api.SpinningHop, rows(4, "12300", "44444", "00321")},
	{api.SpinningSide, rows(4, "10", "01")},
	{api.SpinningSide, rows(4, "0011", "1100")},
	{api.SpinningSide, rows(4, "1000", "2222", "0010")},
	{api.SpinningSide, rows(4, "10001000", "00100010")},
	{api.SpinningJump, rows(4, "0")},
	{api.SpinningJump, rows(4, "0110")},
	{api.SpinningJump, rows(4, "010", "010")},
	{api.SpinningJump, rows(4, "01", "22", "01")},
	{api.SpinningJump, rows(4, "0", "1", "0")},
}

// bandIs holds the kind of a band against the one that is wanted.
func bandIs(t *testing.T, what string, c api.Chart, want int) {
	t.Helper()
	if k, err := Band(c); k != want || err != api.OK {
		t.Errorf("%s, %d by %d: %v: band %d %d, not %d", what, c.Wide, c.High, c.Cells, k, err, want)
	}
}

// upsideDown, backwards and begun are the same band, seen otherwise.
func upsideDown(c api.Chart) api.Chart {
	out := plain(c.Grid, c.Wide, c.High)
	for i := range out.Cells {
		out.Cells[i] = bandAt(c, i%c.Wide, c.High-1-i/c.Wide)
	}
	return out
}

func backwards(c api.Chart) api.Chart {
	out := plain(c.Grid, c.Wide, c.High)
	for i := range out.Cells {
		out.Cells[i] = bandAt(c, c.Wide-1-i%c.Wide, i/c.Wide)
	}
	return out
}

func begun(c api.Chart, by int) api.Chart {
	out := plain(c.Grid, c.Wide, c.High)
	for i := range out.Cells {
		out.Cells[i] = bandAt(c, i%c.Wide+by, i/c.Wide)
	}
	return out
}

func TestK4EachKind(t *testing.T) {
	for _, x := range bands {
		bandIs(t, "known", x.c, x.kind)
		if w := bandByWords(x.c); w != x.kind {
			t.Errorf("%v: by the words %d, not %d", x.c, w, x.kind)
		}
	}
}

func TestK4SeenOtherwise(t *testing.T) {
	for _, x := range bands {
		bandIs(t, "upside down", upsideDown(x.c), x.kind)
		bandIs(t, "backwards", backwards(x.c), x.kind)
		bandIs(t, "both", backwards(upsideDown(x.c)), x.kind)
		for by := range x.c.Wide {
			bandIs(t, "begun elsewhere", begun(x.c, by), x.kind)
			bandIs(t, "begun elsewhere, backwards", backwards(begun(x.c, by)), x.kind)
		}
		bandIs(t, "with other colours", recoloured(x.c, 37, 5), x.kind)
		for times := 2; times*x.c.Wide <= api.MaxSide; times++ {
			bandIs(t, "laid out to the side", laid(x.c, times, 1), x.kind)
		}
	}
}

// TestK4UpIsNotOn: a band does not go on upwards, so that its kind can hang on the row at which it begins.
func TestK4UpIsNotOn(t *testing.T) {
	bandIs(t, "the middle in the middle", rows(4, "012", "000", "012"), api.Jump)
	bandIs(t, "the middle below", rows(4, "000", "012", "012"), api.Hop)
	bandIs(t, "once", rows(4, "011", "000"), api.Sidle)
	bandIs(t, "twice", laid(rows(4, "011", "000"), 1, 2), api.Sidle)
}

func TestK4AllSmallByTheWords(t *testing.T) {
	var charts []api.Chart
	for _, x := range []struct{ wide, high, colours int }{
		{1, 1, 2}, {1, 2, 3}, {1, 3, 3}, {1, 4, 2}, {2, 1, 3}, {2, 2, 3}, {2, 3, 2}, {3, 1, 4}, {3, 2, 3}, {3, 3, 2},
		{4, 1, 4}, {4, 2, 3}, {4, 3, 2}, {5, 2, 2}, {6, 1, 3}, {6, 2, 2}, {7, 1, 2}, {2, 4, 2}, {2, 5, 2},
	} {
		charts = append(charts, allOf(api.Square, x.wide, x.high, x.colours)...)
	}
	seen := map[int]int{}
	for _, c := range charts {
		want := bandByWords(c)
		seen[want]++
		bandIs(t, "small", c, want)
	}
	for kind := api.Hop; kind <= api.SpinningJump; kind++ {
		if seen[kind] == 0 {
			t.Errorf("no band is of the kind %d", kind)
		}
	}
}

// TestK4Greatest: a band has no torus, so that it may be as wide and as high as a chart.
func TestK4Greatest(t *testing.T) {
	for _, side := range []api.Point{at(64, 64), at(63, 64), at(64, 63), at(63, 63), at(25, 7), at(64, 1), at(1, 64)} {
		c := plain(api.Square, side.X, side.Y)
		bandIs(t, "one colour", c, api.SpinningJump)
		if side.Y > 1 {
			c.Cells[0] = 61
			bandIs(t, "one dot", c, api.Sidle)
		}
		if side.X > 2 && side.Y > 1 {
			c.Cells[1] = 60
			bandIs(t, "two dots", c, api.Hop)
			last := len(c.Cells) - 1
			c.Cells[last], c.Cells[last-1] = 61, 60
			bandIs(t, "turned dots", c, api.SpinningHop)
			c.Cells[last], c.Cells[last-1] = 0, 0
			c.Cells[last-side.X+1], c.Cells[last-side.X+2] = 61, 60
			bandIs(t, "mirrored dots", c, api.Jump)
		}
	}
	c := plain(api.Square, 64, 64)
	c.Cells[0], c.Cells[1], c.Cells[63*64+32], c.Cells[63*64+33] = 1, 2, 1, 2
	bandIs(t, "a step of 32", c, api.Step)
	c.Cells[63*64+32], c.Cells[63*64+33], c.Cells[63*64+31] = 0, 1, 2
	bandIs(t, "no step of 32", c, api.Hop)
}

func TestK4Wrong(t *testing.T) {
	for _, x := range wrongCharts {
		if k, err := Band(x.c); k != 0 || err != x.want {
			t.Errorf("%s: %d %d, not 0 %d", x.name, k, err, x.want)
		}
	}
	for _, side := range []api.Point{at(1, 1), at(3, 2), at(25, 7), at(64, 64)} {
		if k, err := Band(plain(api.Hex, side.X, side.Y)); k != 0 || err != api.ErrFit {
			t.Errorf("of triangles: %d %d, not ErrFit", k, err)
		}
	}
	c := api.Chart{Grid: api.Hex, Wide: 2, High: 1, Cells: slices.Repeat([]int{api.MaxColour}, 2)}
	if k, err := Band(c); k != 0 || err != api.ErrRange {
		t.Errorf("of triangles with a wrong colour: %d %d, not ErrRange", k, err)
	}
}
