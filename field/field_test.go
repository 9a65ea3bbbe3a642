package field_test

import (
	"math"
	"math/rand"
	"reflect"
	"slices"
	"testing"

	"mercator/api"
	"mercator/field"
)

// raster of rows that are so wide.
func raster(wide int, l ...int) api.Raster {
	return api.Raster{Wide: wide, High: len(l) / wide, L: l}
}

// flat raster: one height.
func flat(wide, high, height int) api.Raster {
	return api.Raster{Wide: wide, High: high, L: slices.Repeat([]int{height}, wide*high)}
}

// same sizes and heights?
func same(a, b api.Raster) bool {
	return a.Wide == b.Wide && a.High == b.High && slices.Equal(a.L, b.L)
}

// nothing: the zero value, but that an empty list is as good as none.
func nothing(a api.Raster) bool { return a.Wide == 0 && a.High == 0 && len(a.L) == 0 }

// copied raster, in memory of its own.
func copied(a api.Raster) api.Raster {
	return api.Raster{Wide: a.Wide, High: a.High, L: slices.Clone(a.L)}
}

// sample: heights at most so great, in size.
func sample(r *rand.Rand, wide, high, size int) api.Raster {
	a := flat(wide, high, 0)
	for i := range a.L {
		a.L[i] = r.Intn(2*size+1) - size
	}
	return a
}

// samples of many shapes, from one cell on, and heights from those that are much alike to the greatest ones.
func samples(seed int64) []api.Raster {
	r := rand.New(rand.NewSource(seed))
	var out []api.Raster
	for _, size := range []int{1, 5, 1000, api.MaxHigh} {
		for _, s := range [][2]int{{1, 1}, {1, 2}, {2, 1}, {3, 3}, {5, 4}, {4, 7}, {1, 40}, {40, 1}, {17, 23}} {
			out = append(out, sample(r, s[0], s[1], size))
		}
	}
	return append(out, flat(3, 2, api.MaxHigh), flat(2, 3, -api.MaxHigh), flat(4, 4, -1))
}

// wrongRaster and the error that is told of it.
type wrongRaster struct {
	a   api.Raster
	err error
}

// wrongRasters: what no raster is.
func wrongRasters() []wrongRaster {
	many := api.MaxSide * api.MaxSide
	out := []wrongRaster{
		{api.Raster{Wide: api.MaxSide + 1, High: 1, L: make([]int, api.MaxSide+1)}, api.ErrBound},
		{api.Raster{Wide: 1, High: api.MaxSide + 1, L: make([]int, api.MaxSide+1)}, api.ErrBound},
		{api.Raster{Wide: api.MaxSide + 1, High: -1}, api.ErrBound},
		{api.Raster{Wide: math.MinInt, High: api.MaxSide + 1}, api.ErrBound},
		{api.Raster{Wide: math.MaxInt, High: math.MaxInt, L: []int{1}}, api.ErrBound},
		{api.Raster{Wide: 1 << 32, High: 1 << 32}, api.ErrBound},
		{api.Raster{Wide: api.MaxSide + 1, High: 1, L: []int{math.MaxInt}}, api.ErrBound},
		{api.Raster{}, api.ErrShape},
		{api.Raster{Wide: 0, High: 1}, api.ErrShape},
		{api.Raster{Wide: 1, High: 0}, api.ErrShape},
		{api.Raster{Wide: 0, High: 0, L: []int{1}}, api.ErrShape},
		{api.Raster{Wide: -1, High: -1, L: []int{1}}, api.ErrShape},
		{api.Raster{Wide: -2, High: -3, L: make([]int, 6)}, api.ErrShape},
		{api.Raster{Wide: math.MinInt, High: math.MinInt}, api.ErrShape},
		{api.Raster{Wide: math.MinInt, High: 2}, api.ErrShape},
		{api.Raster{Wide: 1, High: 1}, api.ErrShape},
		{api.Raster{Wide: 2, High: 2, L: make([]int, 3)}, api.ErrShape},
		{api.Raster{Wide: 2, High: 2, L: make([]int, 5)}, api.ErrShape},
		{api.Raster{Wide: api.MaxSide, High: api.MaxSide, L: make([]int, many-1)}, api.ErrShape},
		{api.Raster{Wide: api.MaxSide, High: api.MaxSide, L: make([]int, many+1)}, api.ErrShape},
		{api.Raster{Wide: 2, High: 2, L: []int{math.MaxInt}}, api.ErrShape},
	}
	for _, height := range []int{api.MaxHigh + 1, -api.MaxHigh - 1, math.MaxInt, math.MinInt, math.MinInt + 1} {
		for at := range 4 {
			a := flat(2, 2, 7)
			a.L[at] = height
			out = append(out, wrongRaster{a, api.ErrRange})
		}
	}
	return out
}

// P90: what is no raster, and in which order that is told; the edges of what is one.
func TestValid(t *testing.T) {
	for _, c := range wrongRasters() {
		if err := field.Valid(c.a); err != c.err {
			t.Error(c.a.Wide, c.a.High, len(c.a.L), err, c.err)
		}
	}
	full := flat(api.MaxSide, api.MaxSide, -api.MaxHigh)
	for _, a := range append(samples(90), full, flat(1, api.MaxSide, 0), flat(api.MaxSide, 1, api.MaxHigh)) {
		if err := field.Valid(a); err != nil {
			t.Error(a, err)
		}
	}
}

// calls that make a raster of another one and a number: first those that look around, then those that scale.
var calls = []struct {
	name string
	of   func(api.Raster, int) (api.Raster, error)
}{{"Mean", field.Mean}, {"Most", field.Most}, {"Least", field.Least}, {"Open", field.Open}, {"Close", field.Close}, {"Coarse", field.Coarse}, {"Fine", field.Fine}}

// P91 to P96: Valid's errors come from all calls, ahead of what is wrong beside the raster.
func TestWrongRasters(t *testing.T) {
	for _, c := range wrongRasters() {
		for _, call := range calls {
			for _, n := range []int{1, -1, 1000} {
				if out, err := call.of(c.a, n); err != c.err || !nothing(out) {
					t.Error(call.name, c.a.Wide, c.a.High, n, err, c.err)
				}
			}
		}
		if text, err := field.Text(c.a); err != c.err || text != "" {
			t.Error(c.a.Wide, c.a.High, text, err, c.err)
		}
		if tile, err := field.Tile(c.a); err != c.err || len(tile) > 0 {
			t.Error(c.a.Wide, c.a.High, tile, err, c.err)
		}
	}
}

// P91, P93: Valid's errors of the first raster, then of the second one, ahead of all others.
func TestWrongPairs(t *testing.T) {
	pair := func(a, b api.Raster, want error) {
		t.Helper()
		for _, how := range []byte{'+', '*'} {
			if out, err := field.Both(a, b, how); err != want || !nothing(out) {
				t.Error(a.Wide, b.Wide, how, err, want)
			}
		}
		for _, workers := range []int{1, 0} {
			if out, err := field.Zones(a, b, workers); err != want || len(out) > 0 {
				t.Error(a.Wide, b.Wide, workers, err, want)
			}
		}
	}
	for _, c := range wrongRasters() {
		pair(c.a, flat(2, 2, 0), c.err)
		pair(flat(2, 2, 0), c.a, c.err)
		for _, d := range wrongRasters() {
			pair(c.a, d.a, c.err)
		}
	}
}

// P91: rows that were worked out by hand.
func TestBoth(t *testing.T) {
	a, b := raster(3, 1, 5, -3, 0, 7, -8), raster(3, 4, 2, -3, 9, -7, -9)
	for _, c := range []struct {
		how  byte
		want api.Raster
	}{
		{'+', raster(3, 5, 7, -6, 9, 0, -17)},
		{'-', raster(3, -3, 3, 0, -9, 14, 1)},
		{'>', raster(3, 4, 5, -3, 9, 7, -8)},
		{'<', raster(3, 1, 2, -3, 0, -7, -9)},
	} {
		if got, err := field.Both(a, b, c.how); err != nil || !same(got, c.want) {
			t.Error(string(c.how), got, err, c.want)
		}
	}
}

// P91: no other way, and not of two sizes, even if there are as many cells.
func TestBothShapes(t *testing.T) {
	for how := range 256 {
		a := raster(2, 1, 2, 3, 4)
		_, err := field.Both(a, a, byte(how))
		if known := how == '+' || how == '-' || how == '<' || how == '>'; known != (err == nil) || !known && err != api.ErrShape {
			t.Error(how, err)
		}
		for _, b := range []api.Raster{raster(1, 1, 2, 3, 4), raster(4, 1, 2, 3, 4), raster(2, 1, 2), raster(1, 1, 2), raster(3, 1, 2, 3, 4, 5, 6)} {
			if out, err := field.Both(a, b, byte(how)); err != api.ErrShape || !nothing(out) {
				t.Error(how, b, err)
			}
		}
	}
}

// P91: what comes may be MaxHigh in size, and not more.
func TestBothRange(t *testing.T) {
	for _, c := range []struct {
		a, b int
		how  byte
		want int
		err  error
	}{
		{api.MaxHigh, 0, '+', api.MaxHigh, nil},
		{api.MaxHigh - 1, 1, '+', api.MaxHigh, nil},
		{api.MaxHigh, 1, '+', 0, api.ErrRange},
		{api.MaxHigh, api.MaxHigh, '+', 0, api.ErrRange},
		{-api.MaxHigh, -1, '+', 0, api.ErrRange},
		{-api.MaxHigh + 1, -1, '+', -api.MaxHigh, nil},
		{-api.MaxHigh, 1, '-', 0, api.ErrRange},
		{1, -api.MaxHigh, '-', 0, api.ErrRange},
		{0, -api.MaxHigh, '-', api.MaxHigh, nil},
		{api.MaxHigh, api.MaxHigh, '-', 0, nil},
		{api.MaxHigh, -api.MaxHigh, '>', api.MaxHigh, nil},
		{api.MaxHigh, -api.MaxHigh, '<', -api.MaxHigh, nil},
	} {
		for at := range 6 {
			a, b := flat(3, 2, 0), flat(3, 2, 0)
			a.L[at], b.L[at] = c.a, c.b
			got, err := field.Both(a, b, c.how)
			if err != c.err || err != nil && !nothing(got) {
				t.Error(c, at, got, err)
			}
			want := flat(3, 2, 0)
			want.L[at] = c.want
			if err == nil && !same(got, want) {
				t.Error(c, at, got, want)
			}
		}
	}
}

// hidden behind a raster's heights: more memory, which nobody reads or writes.
func hidden(a api.Raster, with int) api.Raster {
	l := append(slices.Clone(a.L), slices.Repeat([]int{with}, 300)...)
	return api.Raster{Wide: a.Wide, High: a.High, L: l[:len(a.L)]}
}

// untouched: neither the heights nor what lies behind them.
func untouched(t *testing.T, a, was api.Raster, with int) {
	t.Helper()
	all := a.L[:cap(a.L)]
	for _, n := range all[len(a.L):min(len(all), len(a.L)+300)] {
		if n != with {
			t.Error("written behind the heights", n)
		}
	}
	if !same(a, was) {
		t.Error("changed", a, was)
	}
}

// answers of all calls that are given a raster, and one more that is of its size.
func answers(a, b api.Raster) []any {
	var out []any
	for _, call := range calls {
		for _, n := range []int{0, 1, 2} {
			got, err := call.of(a, n)
			out = append(out, got, err)
		}
	}
	for _, how := range []byte("+-<>") {
		got, err := field.Both(a, b, how)
		out = append(out, got, err)
	}
	zones, err := field.Zones(a, b, 3)
	text, other := field.Text(a)
	tile, another := field.Tile(a)
	return append(out, zones, err, text, other, tile, another, field.Valid(a))
}

// P3, P4: rasters are only read, and nothing behind their heights is.
func TestOnlyRead(t *testing.T) {
	for _, a := range samples(4) {
		b := copied(a)
		slices.Reverse(b.L)
		first, second := hidden(a, 77), hidden(b, -88)
		got := answers(first, second)
		untouched(t, first, a, 77)
		untouched(t, second, b, -88)
		if want := answers(copied(a), copied(b)); !reflect.DeepEqual(got, want) {
			t.Error(a, got, want)
		}
	}
}

// P4: what is answered is new memory, even where nothing changes.
func TestNewMemory(t *testing.T) {
	a := raster(2, 1, 2, 3, 4)
	was := copied(a)
	var all []api.Raster
	for _, call := range calls {
		n := 0
		if call.name == "Fine" || call.name == "Coarse" {
			n = 1
		}
		got, err := call.of(a, n)
		if err != nil || !same(got, was) {
			t.Error(call.name, got, err)
		}
		all = append(all, got)
	}
	for _, how := range []byte("<>") {
		got, err := field.Both(a, a, how)
		if err != nil || !same(got, was) {
			t.Error(how, got, err)
		}
		all = append(all, got)
	}
	for i := range all {
		all[i].L[0] = 50
		untouched(t, a, was, 0)
		for _, other := range all[i+1:] {
			if !same(other, was) {
				t.Error(i, "shares memory with another answer")
			}
		}
	}
}
