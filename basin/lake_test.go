package basin_test

import (
	"math"
	"math/rand"
	"reflect"
	"slices"
	"testing"

	"mercator/api"
	"mercator/basin"
)

// ponds: one in the north west, two cells that touch across a corner, and one in the east that stands higher.
func ponds() api.Raster {
	return raster(7,
		9, 9, 9, 9, 9, 9, 9,
		9, 1, 9, 9, 9, 9, 9,
		9, 9, 3, 9, 9, 8, 9,
		9, 9, 9, 9, 9, 5, 9,
		9, 9, 9, 6, 9, 9, 9,
		9, 9, 9, 9, 9, 9, 9)
}

// stairs: two ponds at two heights, with one cell between them over which the higher one flows.
func stairs() api.Raster {
	return raster(6,
		9, 9, 9, 9, 9, 9,
		9, 6, 7, 5, 2, 4,
		9, 9, 1, 9, 9, 9,
		9, 9, 9, 9, 9, 9)
}

// P131: worked out by hand.
func TestLakes(t *testing.T) {
	for _, c := range []struct {
		a      api.Raster
		want   [][]int
		depths [][2]int
	}{
		{pit(), [][]int{{5, 9}}, [][2]int{{3, 5}}},
		{ponds(), [][]int{{8, 16}, {19, 26}, {31}}, [][2]int{{8, 14}, {4, 5}, {3, 3}}},
		{stairs(), [][]int{{10}, {14}}, [][2]int{{2, 2}, {4, 4}}},
		{raster(5, 9, 9, 9, 9, 9, 9, 0, 0, 0, 8, 9, 0, 9, 0, 9, 9, 0, 0, 0, 9, 9, 9, 9, 9, 9), [][]int{{6, 7, 8, 11, 13, 16, 17, 18}}, [][2]int{{8, 64}}},
		{raster(3, api.MaxHigh, api.MaxHigh, api.MaxHigh, api.MaxHigh, -api.MaxHigh, api.MaxHigh, api.MaxHigh, api.MaxHigh, api.MaxHigh), [][]int{{4}}, [][2]int{{2 * api.MaxHigh, 2 * api.MaxHigh}}},
		{flat(5, 5, 3), nil, nil},
		{raster(3, 9, 9, 9, 9, 4, 4, 9, 9, 9), nil, nil}, // it flows out without filling
		{raster(1, 5), nil, nil},
		{raster(2, 9, 9, 1, 1, 9, 9), nil, nil},
	} {
		got, err := basin.Lakes(c.a)
		if err != nil || !reflect.DeepEqual(got, c.want) {
			t.Error(c.a, got, err, c.want)
		}
		for n, lake := range c.want {
			if deepest, all, err := basin.Depth(c.a, lake); err != nil || [2]int{deepest, all} != c.depths[n] {
				t.Error(c.a, lake, deepest, all, err, c.depths[n])
			}
		}
	}
}

// fillOf a raster: of each cell the least height up to which one must go on some path to the rim, lowered until nothing is lowered any more.
func fillOf(a api.Raster) []int {
	out := slices.Repeat([]int{math.MaxInt}, len(a.L))
	for lowered := true; lowered; {
		lowered = false
		for cell, height := range a.L {
			best := math.MinInt
			if !onRim(a, cell) {
				best = math.MaxInt
				for _, other := range aroundIt(a, cell) {
					best = min(best, out[other])
				}
			}
			if best = max(best, height); best < out[cell] {
				out[cell], lowered = best, true
			}
		}
	}
	return out
}

// spread from a cell over those that are in: rising; none, if it is not.
func spread(a api.Raster, cell int, in func(cell int) bool) []int {
	reached := map[int]bool{}
	var reach func(cell int)
	reach = func(cell int) {
		if reached[cell] || !in(cell) {
			return
		}
		reached[cell] = true
		for _, other := range aroundIt(a, cell) {
			reach(other)
		}
	}
	reach(cell)
	var out []int
	for cell := range a.L {
		if reached[cell] {
			out = append(out, cell)
		}
	}
	return out
}

// P131: samples: each lake is spread from its first cell.
func TestLakesSamples(t *testing.T) {
	many, great := 0, 0
	for _, a := range samples(131) {
		full := fillOf(a)
		wet := func(cell int) bool { return full[cell] > a.L[cell] }
		var want [][]int
		for cell := range a.L {
			if lake := spread(a, cell, wet); len(lake) > 0 && lake[0] == cell {
				want = append(want, lake)
			}
		}
		got, err := basin.Lakes(a)
		if err != nil || !reflect.DeepEqual(got, want) {
			t.Error(a, got, err, want)
		}
		for _, lake := range want {
			deepest, all := 0, 0
			for _, cell := range lake {
				deepest, all = max(deepest, full[cell]-a.L[cell]), all+full[cell]-a.L[cell]
			}
			if d, s, err := basin.Depth(a, lake); err != nil || d != deepest || s != all {
				t.Error(a, lake, d, s, err, deepest, all)
			}
			great = max(great, len(lake))
		}
		many = max(many, len(want))
	}
	if many < 8 || great < 50 {
		t.Error("samples are too much alike", many, great)
	}
}

// P131: what is no lake.
func TestDepthShape(t *testing.T) {
	for _, c := range []struct {
		a    api.Raster
		lake []int
	}{
		{pit(), nil},
		{pit(), []int{}},
		{pit(), []int{5}},
		{pit(), []int{9}},
		{pit(), []int{9, 5}},
		{pit(), []int{5, 9, 9}},
		{pit(), []int{5, 5, 9}},
		{pit(), []int{5, 6, 9}},
		{pit(), []int{5, 9, 10}},
		{pit(), []int{0}},
		{pit(), []int{-1}},
		{pit(), []int{5, 16}},
		{pit(), []int{math.MinInt, math.MaxInt}},
		{ponds(), []int{8, 16, 19, 26}},
		{ponds(), []int{8, 16, 31}},
		{flat(4, 4, 0), nil},
		{flat(4, 4, 0), []int{5}},
		{raster(1, 5), nil},
		{raster(1, 5), []int{0}},
	} {
		if deepest, all, err := basin.Depth(c.a, c.lake); err != api.ErrShape || deepest != 0 || all != 0 {
			t.Error(c.a, c.lake, deepest, all, err)
		}
	}
}

// P131: the deepest lake there can be.
func TestDepthGreatest(t *testing.T) {
	a := flat(api.MaxSide, api.MaxSide, -api.MaxHigh)
	for cell := range a.L {
		if onRim(a, cell) {
			a.L[cell] = api.MaxHigh
		}
	}
	l, err := basin.Lakes(a)
	if err != nil || len(l) != 1 || len(l[0]) != 126*126 {
		t.Fatal(len(l), err)
	}
	if deepest, all, err := basin.Depth(a, l[0]); err != nil || deepest != 2*api.MaxHigh || all != 2*api.MaxHigh*126*126 {
		t.Error(deepest, all, err)
	}
	high, cells, err := basin.Rise(a, 64*api.MaxSide+64, 1<<34)
	if want := (api.Frac{Num: 1<<32 - api.MaxHigh*63*63, Den: 63 * 63}); err != nil || high != want || !slices.Equal(cells, l[0]) {
		t.Error(high, want, len(cells), err)
	}
	high, cells, err = basin.Rise(a, 64*api.MaxSide+64, 1<<40)
	if err != nil || high != (api.Frac{Num: api.MaxHigh, Den: 1}) || !slices.Equal(cells, l[0]) {
		t.Error(high, len(cells), err)
	}
}

// P135: worked out by hand: exactly full, nearly, and more than fits; a pit beside it that would be joined; own height, where there is no such height.
func TestRise(t *testing.T) {
	two := raster(5,
		9, 9, 9, 9, 9,
		9, 0, 4, 1, 9,
		9, 9, 9, 9, 9)
	low := raster(3, -4, -4, -4, -4, -9, -4, -4, -4, -4)
	for _, c := range []struct {
		a           api.Raster
		cell, water int
		high        api.Frac
		cells       []int
	}{
		{pit(), 5, 0, api.Frac{Num: 2, Den: 1}, nil},
		{pit(), 5, 1, api.Frac{Num: 3, Den: 1}, []int{5}},
		{pit(), 5, 2, api.Frac{Num: 7, Den: 2}, []int{5, 9}},
		{pit(), 5, 4, api.Frac{Num: 9, Den: 2}, []int{5, 9}},
		{pit(), 5, 5, api.Frac{Num: 5, Den: 1}, []int{5, 9}},
		{pit(), 5, 6, api.Frac{Num: 5, Den: 1}, []int{5, 9}},
		{pit(), 5, 1 << 40, api.Frac{Num: 5, Den: 1}, []int{5, 9}},
		{pit(), 9, 0, api.Frac{Num: 3, Den: 1}, nil},
		{pit(), 9, 1, api.Frac{Num: 3, Den: 1}, nil},
		{pit(), 9, 2, api.Frac{Num: 7, Den: 2}, []int{5, 9}},
		{pit(), 6, 4, api.Frac{Num: 5, Den: 1}, nil},
		{pit(), 10, 3, api.Frac{Num: 8, Den: 1}, nil},
		// Up to 4 there is room for 4; above it the other pit is joined, with 3 more: from 7 on both rise.
		{two, 6, 3, api.Frac{Num: 3, Den: 1}, []int{6}},
		{two, 6, 4, api.Frac{Num: 4, Den: 1}, []int{6}},
		{two, 6, 5, api.Frac{Num: 4, Den: 1}, []int{6}},
		{two, 6, 7, api.Frac{Num: 4, Den: 1}, []int{6}},
		{two, 6, 8, api.Frac{Num: 13, Den: 3}, []int{6, 7, 8}},
		{two, 8, 3, api.Frac{Num: 4, Den: 1}, []int{8}},
		{two, 8, 7, api.Frac{Num: 4, Den: 1}, []int{8}},
		{two, 8, 9, api.Frac{Num: 14, Den: 3}, []int{6, 7, 8}},
		{two, 7, 0, api.Frac{Num: 4, Den: 1}, nil},
		{two, 7, 7, api.Frac{Num: 4, Den: 1}, nil},
		{two, 7, 8, api.Frac{Num: 13, Den: 3}, []int{6, 7, 8}},
		{two, 7, 22, api.Frac{Num: 9, Den: 1}, []int{6, 7, 8}},
		{two, 7, 23, api.Frac{Num: 9, Den: 1}, []int{6, 7, 8}},
		// Heights below 0.
		{low, 4, 0, api.Frac{Num: -9, Den: 1}, nil},
		{low, 4, 3, api.Frac{Num: -6, Den: 1}, []int{4}},
		{low, 4, 5, api.Frac{Num: -4, Den: 1}, []int{4}},
		{low, 4, 6, api.Frac{Num: -4, Den: 1}, []int{4}},
		{raster(4, 9, 9, 9, 9, 9, -4, -4, 9, 9, 9, 9, 9), 5, 7, api.Frac{Num: -1, Den: 2}, []int{5, 6}},
		{raster(4, 9, 9, 9, 9, 9, -4, -4, 9, 9, 9, 9, 9), 6, 8, api.Frac{Num: 0, Den: 1}, []int{5, 6}},
		// As high as the rim, and higher; the greatest height.
		{flat(3, 3, 2), 4, 9, api.Frac{Num: 2, Den: 1}, nil},
		{raster(3, 1, 1, 1, 1, 5, 1, 1, 1, 1), 4, 9, api.Frac{Num: 5, Den: 1}, nil},
		{flat(3, 3, api.MaxHigh), 4, 9, api.Frac{Num: api.MaxHigh, Den: 1}, nil},
		{flat(3, 3, -api.MaxHigh), 4, 9, api.Frac{Num: -api.MaxHigh, Den: 1}, nil},
	} {
		if high, cells, err := basin.Rise(c.a, c.cell, c.water); err != nil || high != c.high || !slices.Equal(cells, c.cells) {
			t.Error(c, high, cells, err)
		}
	}
}

// held: how much water cells hold up to a height, times its denominator; and is one of them of the rim?
func held(a api.Raster, cells []int, high api.Frac) (much int, out bool) {
	for _, cell := range cells {
		much += high.Num - high.Den*a.L[cell]
		out = out || onRim(a, cell)
	}
	return much, out
}

// checkRise of some water, by the words: up to that height all holds, and above it not.
func checkRise(t *testing.T, a api.Raster, cell, water int) []int {
	t.Helper()
	high, cells, err := basin.Rise(a, cell, water)
	if err != nil || high.Den < 1 || gcd(high.Num, high.Den) != 1 {
		t.Fatal(a, cell, water, high, cells, err)
	}
	lower := spread(a, cell, func(cell int) bool { return a.L[cell]*high.Den < high.Num })
	much, out := held(a, lower, high)
	if !slices.Equal(cells, lower) || much > water*high.Den || out {
		t.Error(a, cell, water, high, cells, lower)
	}
	if len(cells) == 0 && high != (api.Frac{Num: a.L[cell], Den: 1}) {
		t.Error(a, cell, water, high)
	}
	above := spread(a, cell, func(cell int) bool { return a.L[cell]*high.Den <= high.Num })
	if much, out := held(a, above, high); much < water*high.Den && !out {
		t.Error(a, cell, water, high, "but it rises higher", above)
	}
	return cells
}

// gcd of two numbers, in size.
func gcd(a, b int) int {
	for b != 0 {
		a, b = b, a%b
	}
	return max(a, -a)
}

// P135: samples.
func TestRiseSamples(t *testing.T) {
	r := rand.New(rand.NewSource(135))
	none, one, more := 0, 0, 0
	for _, a := range samples(135) {
		for cell := range a.L {
			if onRim(a, cell) || len(a.L) > 100 && r.Intn(4) > 0 {
				continue
			}
			for _, water := range []int{0, 1, r.Intn(10), r.Intn(200), r.Intn(5000), r.Intn(1 << 22), 1 << 40} {
				switch len(checkRise(t, a, cell, water)) {
				case 0:
					none++
				case 1:
					one++
				default:
					more++
				}
			}
		}
	}
	if min(none, one, more) < 200 {
		t.Error("samples are too much alike", none, one, more)
	}
}

// P135: the greatest raster.
func TestRiseGreatest(t *testing.T) {
	r := rand.New(rand.NewSource(1350))
	a := raised(sample(r, api.MaxSide, api.MaxSide, 300), -100)
	great := 0
	for range 12 {
		cell := (1+r.Intn(api.MaxSide-2))*api.MaxSide + 1 + r.Intn(api.MaxSide-2)
		for _, water := range []int{1000, 1 << 20, 1 << 24, 1 << 40} {
			great = max(great, len(checkRise(t, a, cell, water)))
		}
	}
	if great < 10000 {
		t.Error("samples are too much alike", great)
	}
}

// P135: no cell, or no such water: ahead of what is told of the rim.
func TestRiseErrors(t *testing.T) {
	for _, c := range []struct {
		a           api.Raster
		cell, water int
		err         error
	}{
		{pit(), -1, 1, api.ErrRange},
		{pit(), 16, 1, api.ErrRange},
		{pit(), math.MaxInt, 1, api.ErrRange},
		{pit(), math.MinInt, 1, api.ErrRange},
		{pit(), 5, -1, api.ErrRange},
		{pit(), 5, 1<<40 + 1, api.ErrRange},
		{pit(), 5, math.MaxInt, api.ErrRange},
		{pit(), 5, math.MinInt, api.ErrRange},
		{pit(), 0, -1, api.ErrRange},
		{pit(), 0, 1<<40 + 1, api.ErrRange},
		{pit(), 0, 0, api.ErrNone},
		{pit(), 3, 5, api.ErrNone},
		{pit(), 7, 5, api.ErrNone},
		{pit(), 12, 1 << 40, api.ErrNone},
		{pit(), 15, 5, api.ErrNone},
		{raster(1, 5), 0, 1, api.ErrNone},
		{raster(2, 9, 9, 1, 1, 9, 9), 3, 1, api.ErrNone},
	} {
		if high, cells, err := basin.Rise(c.a, c.cell, c.water); err != c.err || high != (api.Frac{}) || len(cells) > 0 {
			t.Error(c, high, cells, err)
		}
	}
}
