package relief_test

import (
	"math"
	"math/big"
	"math/rand"
	"slices"
	"testing"

	"mercator/api"
	"mercator/relief"
)

// P104: worked out by hand: corners and sides count only those around them; equal ones are neither; one alone is both.
func TestTops(t *testing.T) {
	for _, c := range []struct {
		a             api.Raster
		tops, bottoms []int
	}{
		{raster(4, 1, 2, 2, 0, 3, 0, 5, 1), []int{4, 6}, []int{3, 5}},
		{raster(1, 7), []int{0}, []int{0}},
		{raster(2, 1, 2), []int{1}, []int{0}},
		{raster(1, 2, 1), []int{0}, []int{1}},
		{raster(2, 1, 1), nil, nil},
		{flat(5, 4, -3), nil, nil},
		{raster(3, 0, 0, 0, 0, 1, 0, 0, 0, 0), []int{4}, nil},
		{raster(3, 0, 0, 0, 0, -1, 0, 0, 0, 0), nil, []int{4}},
		{raster(3, 1, 0, 0, 0, 1, 0, 0, 0, 0), nil, nil},
		{raster(3, 0, 0, 1, 0, 1, 0, 0, 0, 0), nil, nil},
		{raster(3, 0, 0, 0, 0, 1, 0, 1, 0, 0), nil, nil},
		{raster(3, 0, 0, 0, 0, 1, 0, 0, 0, 1), nil, nil},
		{raster(3, 9, 1, 8, 2, 3, 2, 7, 1, 6), []int{0, 2, 6, 8}, []int{1, 7}},
		{raster(4, 1, 0, 0, 2, 2, 0, 0, 1), []int{3, 4}, nil}, // the end of a row has nothing to do with the next one's beginning
	} {
		tops, bottoms, err := relief.Tops(c.a)
		if err != nil || !slices.Equal(tops, c.tops) || !slices.Equal(bottoms, c.bottoms) {
			t.Error(c.a, tops, bottoms, err, c.tops, c.bottoms)
		}
	}
}

// beaten: is there another cell at most one column and one row away for which it is so?
func beaten(a api.Raster, cell int, by func(other int) bool) bool {
	for other := range a.L {
		cols, rows := other%a.Wide-cell%a.Wide, other/a.Wide-cell/a.Wide
		if other != cell && cols*cols <= 1 && rows*rows <= 1 && by(a.L[other]) {
			return true
		}
	}
	return false
}

// P104: many rasters, cell by cell against all others; the lists of one answer share no memory.
func TestTopsSamples(t *testing.T) {
	found := 0
	for _, a := range append(samples(120), samples(121)...) {
		var wantTops, wantBottoms []int
		for cell, height := range a.L {
			if !beaten(a, cell, func(other int) bool { return other >= height }) {
				wantTops = append(wantTops, cell)
			}
			if !beaten(a, cell, func(other int) bool { return other <= height }) {
				wantBottoms = append(wantBottoms, cell)
			}
		}
		tops, bottoms, err := relief.Tops(a)
		if err != nil || !slices.Equal(tops, wantTops) || !slices.Equal(bottoms, wantBottoms) {
			t.Fatal(a, tops, bottoms, err, wantTops, wantBottoms)
		}
		_ = append(tops, -1, -1, -1)
		for i := range tops {
			tops[i] = -1
		}
		if !slices.Equal(bottoms, wantBottoms) {
			t.Error(a, bottoms, wantBottoms)
		}
		found += len(wantTops) + len(wantBottoms)
	}
	if found < 200 {
		t.Error("samples are too much alike", found)
	}
}

// P105: worked out by hand: one that only touches a height is neither above it nor partly so; flat ground never is partly so.
func TestAbove(t *testing.T) {
	a := raster(3, 0, 4, 8, 4, 8, 12)
	cut := raster(2, 0, 9, -9, 1)
	for _, c := range []struct {
		a           api.Raster
		num, den    int
		whole, part int
	}{
		{a, -1, 1, 4, 0},
		{a, -1, 1 << 20, 4, 0},
		{a, 0, 1, 2, 0},
		{a, 1, 1 << 20, 2, 2},
		{a, 7, 1, 0, 4},
		{a, 8, 1, 0, 2},
		{a, 16, 2, 0, 2},
		{a, 15, 2, 0, 4},
		{a, 12, 1, 0, 0},
		{a, 12<<20 - 1, 1 << 20, 0, 2},
		{a, 1 << 42, 1, 0, 0},
		{a, -1 << 42, 1, 4, 0},
		{a, 1 << 42, 1 << 20, 0, 0},
		{a, -1 << 42, 1 << 20, 4, 0},
		{cut, -1, 2, 1, 1},
		{cut, 1, 2, 0, 2},
		{cut, 1, 1, 0, 1},
		{cut, 0, 1, 0, 1},
		{cut, 2, 1, 0, 1},
		{cut, -9, 1, 1, 0},
		{flat(3, 4, 6), 6, 1, 0, 0},
		{flat(3, 4, 6), 6<<20 - 1, 1 << 20, 12, 0},
		{flat(3, 4, 6), 6<<20 + 1, 1 << 20, 0, 0},
		{flat(1, 1, 6), 0, 1, 0, 0},
		{flat(1, 4, 6), 0, 1, 0, 0},
		{flat(4, 1, 6), 0, 1, 0, 0},
		{flat(api.MaxSide, api.MaxSide, api.MaxHigh), 1<<40 - 1, 1 << 20, 2 * 127 * 127, 0},
		{flat(api.MaxSide, api.MaxSide, api.MaxHigh), 1 << 40, 1 << 20, 0, 0},
	} {
		if whole, part, err := relief.Above(c.a, c.num, c.den); err != nil || whole != c.whole || part != c.part {
			t.Error(c.a.Wide, c.a.High, c.num, c.den, whole, part, err, c.whole, c.part)
		}
	}
}

// P105: which heights can be asked.
func TestAboveWrong(t *testing.T) {
	a := raster(2, 1, 2, 3, 4)
	for _, c := range [][2]int{{0, 0}, {0, -1}, {0, 1<<20 + 1}, {0, math.MaxInt}, {0, math.MinInt}, {1<<42 + 1, 1}, {-1<<42 - 1, 1}, {math.MaxInt, 1}, {math.MinInt, 1}, {math.MinInt + 1, 1 << 20}, {math.MinInt, math.MinInt}} {
		if whole, part, err := relief.Above(a, c[0], c[1]); err != api.ErrShape || whole != 0 || part != 0 {
			t.Error(c, whole, part, err)
		}
	}
}

// P105: many rasters and heights, triangle by triangle.
func TestAboveSamples(t *testing.T) {
	r := rand.New(rand.NewSource(122))
	wholes, parts, neither := 0, 0, 0
	for _, a := range samples(123) {
		all := triangles(a)
		for range 60 {
			den := 1 + r.Intn(3)
			if r.Intn(3) == 0 {
				den = 1 + r.Intn(1<<20)
			}
			num := a.L[r.Intn(len(a.L))]*den + r.Intn(3) - 1
			level := big.NewRat(int64(num), int64(den))
			whole, part := 0, 0
			for _, one := range all {
				above, below := 0, 0
				for _, height := range one.heights {
					switch big.NewRat(int64(height), 1).Cmp(level) {
					case 1:
						above++
					case -1:
						below++
					}
				}
				if above == 3 {
					whole++
				} else if above > 0 && below > 0 {
					part++
				}
			}
			gotWhole, gotPart, err := relief.Above(a, num, den)
			if err != nil || gotWhole != whole || gotPart != part {
				t.Fatal(a, num, den, gotWhole, gotPart, err, whole, part)
			}
			wholes, parts, neither = wholes+whole, parts+part, neither+len(all)-whole-part
		}
	}
	if wholes < 1000 || parts < 1000 || neither < 1000 {
		t.Error("samples are too much alike", wholes, parts, neither)
	}
}
