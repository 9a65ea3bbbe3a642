package sight_test

import (
	"math"
	"math/rand"
	"slices"
	"testing"

	"mercator/api"
	"mercator/sight"
)

// view, where nothing is wrong.
func view(t *testing.T, a api.Raster, from, eye, up, workers int) []int {
	t.Helper()
	l, err := sight.View(a, from, eye, up, workers)
	if err != nil {
		t.Fatal(a.Wide, a.High, from, eye, up, workers, err)
	}
	return l
}

// P142: worked out by hand, however many work.
func TestView(t *testing.T) {
	wall := raster(3, 0, 9, 0, 0, 9, 0, 0, 9, 0)
	for _, c := range []struct {
		a             api.Raster
		from, eye, up int
		want          []int
	}{
		{raster(4, 0, 5, 0, 0, 0, 0, 0, 0, 0, 0, 9, 0), 4, 1, 0, []int{0, 1, 4, 5, 6, 7, 8, 9, 10}},
		{raster(5, 0, 0, 6, 0, 0), 0, 0, 0, []int{0, 1, 2}},
		{raster(5, 0, 0, 6, 0, 0), 0, 0, 9, []int{0, 1, 2, 3}},
		{raster(5, 0, 0, 6, 0, 0), 0, 0, 12, []int{0, 1, 2, 3, 4}},
		{raster(5, 0, 0, 6, 0, 0), 0, 12, 0, []int{0, 1, 2, 4}},
		{raster(1, 0, 0, 6, 0, 0), 4, 0, 0, []int{2, 3, 4}},
		{wall, 3, 0, 0, []int{0, 1, 3, 4, 6, 7}},
		{wall, 4, 0, 0, []int{0, 1, 2, 3, 4, 5, 6, 7, 8}},
		{wall, 5, 17, 0, []int{1, 2, 4, 5, 7, 8}},
		{wall, 5, 18, 0, []int{0, 1, 2, 3, 4, 5, 6, 7, 8}},
		{raster(2, 8, 0, 0, 8), 1, 0, 0, []int{0, 1, 3}},
		{raster(2, 0, 8, 8, 0), 0, 0, 0, []int{0, 1, 2, 3}},
		{flat(1, 1, 5), 0, 0, 0, []int{0}},
	} {
		for workers := 1; workers <= api.Workers; workers++ {
			if got := view(t, c.a, c.from, c.eye, c.up, workers); !slices.Equal(got, c.want) {
				t.Error(c, workers, got)
			}
		}
	}
}

// P142: samples: just those that Sees tells, rising, the cell itself among them; what is answered is new each time.
func TestViewSamples(t *testing.T) {
	r := rand.New(rand.NewSource(148))
	all, some := 0, 0
	for _, a := range samples(149) {
		for from := range a.L {
			eye, up := eyes(r, a), eyes(r, a)
			var want []int
			for to := range a.L {
				if sees(t, a, sight.Look{From: from, To: to, Eye: eye, Up: up}) {
					want = append(want, to)
				}
			}
			for range 3 {
				got := view(t, a, from, eye, up, 1+r.Intn(api.Workers))
				if !slices.Equal(got, want) || !slices.Contains(got, from) {
					t.Fatal(a, from, eye, up, got, want)
				}
				clear(got)
			}
			if len(want) < len(a.L) {
				some++
			} else {
				all++
			}
		}
	}
	if all < 100 || some < 100 {
		t.Error("samples are too much alike", all, some)
	}
}

// P142: on the greatest rasters, however many work.
func TestViewGreatest(t *testing.T) {
	r := rand.New(rand.NewSource(150))
	rough := sample(r, api.MaxSide, api.MaxSide, api.MaxHigh)
	hollow := bowl(r, api.MaxSide, api.MaxSide, 30)
	for _, c := range []struct {
		a    api.Raster
		from int
	}{{rough, 0}, {rough, 64*api.MaxSide + 70}, {hollow, 0}, {hollow, 127}, {hollow, 64*api.MaxSide + 64}, {flat(api.MaxSide, api.MaxSide, 1), api.MaxSide*api.MaxSide - 1}} {
		want := view(t, c.a, c.from, 40, 3, 1)
		for _, workers := range []int{2, 7, api.Workers} {
			if got := view(t, c.a, c.from, 40, 3, workers); !slices.Equal(got, want) {
				t.Error(c.from, workers, len(got), len(want))
			}
		}
		for range 500 {
			to := r.Intn(len(c.a.L))
			if ok := sees(t, c.a, sight.Look{From: c.from, To: to, Eye: 40, Up: 3}); ok != slices.Contains(want, to) {
				t.Error(c.from, to, ok)
			}
		}
	}
	if all := view(t, flat(api.MaxSide, api.MaxSide, 1), 5, 0, 0, 16); len(all) != api.MaxSide*api.MaxSide {
		t.Error(len(all))
	}
}

// fracs of pairs of numbers.
func fracs(pairs ...int) []api.Frac {
	var out []api.Frac
	for n := 0; n < len(pairs); n += 2 {
		out = append(out, api.Frac{Num: pairs[n], Den: pairs[n+1]})
	}
	return out
}

// P143: worked out by hand.
func TestStops(t *testing.T) {
	a := flat(4, 3, 0)
	for _, c := range []struct {
		from, to int
		want     []api.Frac
	}{
		{0, 0, nil},
		{0, 1, nil},
		{0, 4, nil},
		{0, 5, nil},               // along a cut
		{1, 4, fracs(1, 2)},       // over a cut
		{4, 1, fracs(1, 2)},       // and back
		{0, 2, fracs(1, 2)},       // each once
		{0, 8, fracs(1, 2)},       // along a column
		{0, 10, fracs(1, 2)},      // along two cuts
		{0, 6, fracs(1, 2)},       // over a column alone
		{0, 9, fracs(1, 2)},       // over a row alone
		{0, 3, fracs(1, 3, 2, 3)}, // along a row
		{3, 0, fracs(1, 3, 2, 3)}, // and back
		{2, 8, fracs(1, 4, 1, 2, 3, 4)},
		{0, 7, fracs(1, 3, 1, 2, 2, 3)},
		{0, 11, fracs(1, 3, 1, 2, 2, 3)},
		{3, 4, fracs(1, 4, 1, 3, 1, 2, 2, 3, 3, 4)},
		{3, 8, fracs(1, 5, 1, 3, 2, 5, 1, 2, 3, 5, 2, 3, 4, 5)},
	} {
		l, err := sight.Stops(a, sight.Look{From: c.from, To: c.to, Eye: 7, Up: 5})
		if err != nil || !slices.Equal(l, c.want) {
			t.Error(c, l, err)
		}
	}
}

// divisor: the greatest common one of two numbers from 0 on.
func divisor(a, b int) int {
	for b > 0 {
		a, b = b, a%b
	}
	return a
}

// stopsOf a look, as they are told: of all fractions those at which the line is over a column of middles, a row or a cut that it does not run along.
func stopsOf(a api.Raster, l sight.Look) []api.Frac {
	col, row := l.From%a.Wide, l.From/a.Wide
	east, south := l.To%a.Wide-col, l.To/a.Wide-row
	var out []api.Frac
	for den := 2; den <= 2*api.MaxSide; den++ {
		for num := 1; num < den; num++ {
			over := func(way int) bool { return way != 0 && (num*way)%den == 0 }
			if divisor(den, num) == 1 && (over(east) || over(south) || over(east-south)) {
				out = append(out, api.Frac{Num: num, Den: den})
			}
		}
	}
	slices.SortFunc(out, func(p, q api.Frac) int { return p.Num*q.Den - q.Num*p.Den })
	return out
}

// P143: samples of all shapes, whatever is asked beside the cells, and on the greatest raster; what is answered is new each time.
func TestStopsSamples(t *testing.T) {
	r := rand.New(rand.NewSource(151))
	longest := 0
	for _, s := range [][2]int{{1, 1}, {1, 9}, {9, 1}, {2, 2}, {2, 7}, {6, 6}, {13, 5}, {60, 50}, {api.MaxSide, 1}, {api.MaxSide, api.MaxSide}} {
		a := sample(r, s[0], s[1], 5)
		last := len(a.L) - 1
		looks := []sight.Look{{To: last}, {From: last}, {From: a.Wide - 1, To: last - a.Wide + 1}, {From: last - a.Wide + 1, To: a.Wide - 1}}
		for range 12 {
			looks = append(looks, sight.Look{From: r.Intn(last + 1), To: r.Intn(last + 1), Eye: eyes(r, a), Up: eyes(r, a)})
		}
		for _, l := range looks {
			want := stopsOf(a, l)
			for range 2 {
				got, err := sight.Stops(a, l)
				if err != nil || !slices.Equal(got, want) {
					t.Fatal(s, l, got, err, want)
				}
				clear(got)
			}
			longest = max(longest, len(want))
		}
	}
	if longest < 253 {
		t.Error("samples are too short", longest)
	}
}

// wrongRaster and the error that is told of it.
type wrongRaster struct {
	a   api.Raster
	err error
}

// wrongRasters: what no raster is.
func wrongRasters() []wrongRaster {
	high := func(height int) api.Raster { return raster(2, 1, 2, 3, height) }
	return []wrongRaster{
		{api.Raster{Wide: api.MaxSide + 1, High: 1, L: make([]int, api.MaxSide+1)}, api.ErrBound},
		{api.Raster{Wide: 1, High: api.MaxSide + 1, L: make([]int, api.MaxSide+1)}, api.ErrBound},
		{api.Raster{Wide: math.MaxInt, High: math.MaxInt, L: []int{1}}, api.ErrBound},
		{api.Raster{}, api.ErrShape},
		{api.Raster{Wide: 0, High: 1}, api.ErrShape},
		{api.Raster{Wide: 1, High: 0}, api.ErrShape},
		{api.Raster{Wide: 1, High: 1}, api.ErrShape},
		{api.Raster{Wide: -1, High: -1, L: []int{1}}, api.ErrShape},
		{api.Raster{Wide: math.MinInt, High: math.MinInt}, api.ErrShape},
		{api.Raster{Wide: 3, High: 3, L: make([]int, 8)}, api.ErrShape},
		{api.Raster{Wide: 3, High: 3, L: make([]int, 10)}, api.ErrShape},
		{high(api.MaxHigh + 1), api.ErrRange},
		{high(-api.MaxHigh - 1), api.ErrRange},
		{high(math.MaxInt), api.ErrRange},
		{high(math.MinInt), api.ErrRange},
	}
}

// told by each call of a look: the error, and nothing beside it. Need is not asked where Up alone is wrong.
func told(t *testing.T, a api.Raster, l sight.Look, want error, need bool) {
	t.Helper()
	if ok, err := sight.Sees(a, l); err != want || ok {
		t.Error("Sees", a, l, ok, err)
	}
	if f, err := sight.Need(a, l); need && (err != want || f != api.Frac{}) {
		t.Error("Need", a, l, f, err)
	}
	if stops, err := sight.Stops(a, l); err != want || len(stops) > 0 {
		t.Error("Stops", a, l, stops, err)
	}
}

// P140 to P143: what is no raster is told ahead of what is wrong beside it, but behind wrong workers.
func TestWrongRasters(t *testing.T) {
	for _, c := range wrongRasters() {
		for _, n := range []int{0, 1, -1, 4, math.MaxInt, math.MinInt} {
			for _, l := range []sight.Look{{}, {From: n}, {To: n}, {Eye: n}, {Up: n}, {n, n, n, n}} {
				told(t, c.a, l, c.err, true)
				if got, err := sight.View(c.a, l.From, l.Eye, l.Up, 1); err != c.err || len(got) > 0 {
					t.Error(c.a, l, got, err)
				}
				if got, err := sight.View(c.a, l.From, l.Eye, l.Up, 0); err != api.ErrShape || len(got) > 0 {
					t.Error(c.a, l, got, err)
				}
			}
		}
	}
}

// P140 to P143: which cells, eyes and marks there are. The bounds themselves are right.
func TestWrongLooks(t *testing.T) {
	a := raster(3, 1, 2, 3, 4, 5, 6)
	for _, cell := range []int{-1, 6, 7, math.MaxInt, math.MinInt} {
		told(t, a, sight.Look{From: cell}, api.ErrRange, true)
		told(t, a, sight.Look{To: cell}, api.ErrRange, true)
		told(t, a, sight.Look{From: cell, To: cell}, api.ErrRange, true)
		if got, err := sight.View(a, cell, 0, 0, 1); err != api.ErrRange || len(got) > 0 {
			t.Error(cell, got, err)
		}
	}
	for _, high := range []int{-1, api.MaxHigh + 1, math.MaxInt, math.MinInt} {
		for _, to := range []int{0, 5} { // of a look at oneself, too
			told(t, a, sight.Look{To: to, Eye: high}, api.ErrRange, true)
			told(t, a, sight.Look{To: to, Up: high}, api.ErrRange, false)
			told(t, a, sight.Look{To: to, Eye: high, Up: high}, api.ErrRange, true)
		}
		if got, err := sight.View(a, 0, high, 0, 1); err != api.ErrRange || len(got) > 0 {
			t.Error(high, got, err)
		}
		if got, err := sight.View(a, 0, 0, high, 1); err != api.ErrRange || len(got) > 0 {
			t.Error(high, got, err)
		}
	}
	for _, l := range []sight.Look{{}, {From: 5}, {To: 5}, {To: 5, Eye: api.MaxHigh}, {To: 5, Up: api.MaxHigh}, {To: 5, Eye: api.MaxHigh, Up: api.MaxHigh}} {
		told := func(err error) {
			if err != nil {
				t.Error(l, err)
			}
		}
		_, err := sight.Sees(a, l)
		told(err)
		_, err = sight.Need(a, l)
		told(err)
		_, err = sight.Stops(a, l)
		told(err)
		_, err = sight.View(a, l.From, l.Eye, l.Up, api.Workers)
		told(err)
	}
}

// P142: how many can work, ahead of all else.
func TestWrongWorkers(t *testing.T) {
	a := raster(3, 1, 2, 3, 4, 5, 6)
	for _, workers := range []int{0, -1, api.Workers + 1, math.MaxInt, math.MinInt} {
		for _, n := range []int{0, -1, math.MaxInt} {
			if got, err := sight.View(a, n, n, n, workers); err != api.ErrShape || len(got) > 0 {
				t.Error(n, workers, got, err)
			}
		}
	}
}

// P3, P4: the heights are only read, and none behind them is asked or written.
func TestOnlyRead(t *testing.T) {
	memory := []int{3, 1, 4, 1, 5, 9, 2, 6, 5}
	b := raster(3, slices.Clone(memory)...)
	for _, behind := range []int{math.MaxInt, math.MinInt, 0} {
		whole := append(slices.Clone(memory), behind, behind, behind, behind)
		before := slices.Clone(whole)
		a := api.Raster{Wide: 3, High: 3, L: whole[:9]}
		for from := range a.L {
			if got, want := view(t, a, from, 1, 0, 4), view(t, b, from, 1, 0, 4); !slices.Equal(got, want) {
				t.Error(from, got, want)
			}
			for to := range a.L {
				l := sight.Look{From: from, To: to, Eye: 1}
				if sees(t, a, l) != sees(t, b, l) {
					t.Error(l)
				}
				f, err := sight.Need(a, l)
				if g, _ := sight.Need(b, l); err != nil || f != g {
					t.Error(l, f, g, err)
				}
				if _, err := sight.Stops(a, l); err != nil {
					t.Error(l, err)
				}
			}
		}
		if !slices.Equal(whole, before) {
			t.Error(whole, before)
		}
	}
}
