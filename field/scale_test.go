package field_test

import (
	"math"
	"testing"

	"mercator/api"
	"mercator/field"
)

// P94: rows that were worked out by hand.
func TestScales(t *testing.T) {
	for _, c := range []struct {
		name string
		of   func(api.Raster, int) (api.Raster, error)
		a    api.Raster
		by   int
		want api.Raster
	}{
		{"Coarse", field.Coarse, raster(4, 1, 2, 3, 4), 2, raster(2, 1, 3)},
		{"Coarse", field.Coarse, raster(5, 1, 2, 3, 4, 5), 2, raster(3, 1, 3, 5)},
		{"Coarse", field.Coarse, raster(1, 1, 2, 3, 4, 5), 3, raster(1, 2, 4)},
		{"Coarse", field.Coarse, raster(1, -1, -2, -3, -4, -5), 2, raster(1, -2, -4, -5)},
		{"Coarse", field.Coarse, raster(3, 1, 1, 0, 1, 0, -1), 2, raster(2, 0, -1)},
		{"Coarse", field.Coarse, raster(2, 1, 2, 3, 4), 128, raster(1, 2)},
		{"Coarse", field.Coarse, raster(2, 1, 2, 3, 4), 1, raster(2, 1, 2, 3, 4)},
		{"Fine", field.Fine, raster(2, 1, 2), 2, raster(4, 1, 1, 2, 2, 1, 1, 2, 2)},
		{"Fine", field.Fine, raster(1, 1, -2), 3, raster(3, 1, 1, 1, 1, 1, 1, 1, 1, 1, -2, -2, -2, -2, -2, -2, -2, -2, -2)},
		{"Fine", field.Fine, raster(2, 1, 2, 3, 4), 1, raster(2, 1, 2, 3, 4)},
	} {
		if got, err := c.of(c.a, c.by); err != nil || !same(got, c.want) {
			t.Error(c.name, c.a, c.by, got, err, c.want)
		}
	}
}

// blocks: each cell goes to the block that it is of.
func blocks(a api.Raster, by int) api.Raster {
	wide, high := (a.Wide-1)/by+1, (a.High-1)/by+1
	parts := make([][]int, wide*high)
	for cell, height := range a.L {
		of := cell/a.Wide/by*wide + cell%a.Wide/by
		parts[of] = append(parts[of], height)
	}
	out := flat(wide, high, 0)
	for i, part := range parts {
		out.L[i] = lowMean(part)
	}
	return out
}

// P94: samples; and finer, then coarser, is what it was.
func TestScaleSamples(t *testing.T) {
	fine := 0
	for _, a := range samples(95) {
		for _, by := range []int{1, 2, 3, 4, 5, 8, 17, 39, 40, 41, api.MaxSide} {
			if got, err := field.Coarse(a, by); err != nil || !same(got, blocks(a, by)) {
				t.Error(a, by, got, err)
			}
			got, err := field.Fine(a, by)
			if max(a.Wide, a.High)*by > api.MaxSide {
				if err != api.ErrBound || !nothing(got) {
					t.Error(a, by, err)
				}
				continue
			}
			fine++
			if err != nil || got.Wide != a.Wide*by || got.High != a.High*by || field.Valid(got) != nil {
				t.Fatal(a, by, got, err)
			}
			for cell, height := range got.L {
				if row, col := cell/got.Wide, cell%got.Wide; height != a.L[row/by*a.Wide+col/by] {
					t.Error(a, by, cell, height)
				}
			}
			if back, err := field.Coarse(got, by); err != nil || !same(back, a) {
				t.Error(a, by, back, err)
			}
		}
	}
	if fine < 100 {
		t.Error("samples are too much alike", fine)
	}
}

// P94: sides up to MaxSide, and not more, of columns and of rows.
func TestFineSides(t *testing.T) {
	for _, c := range []struct {
		wide, high, by int
		err            error
	}{
		{1, 1, api.MaxSide, nil}, {2, 1, 64, nil}, {1, 2, 64, nil}, {api.MaxSide, api.MaxSide, 1, nil}, {42, 42, 3, nil},
		{2, 1, 65, api.ErrBound}, {1, 2, 65, api.ErrBound}, {2, 1, api.MaxSide, api.ErrBound}, {1, 2, api.MaxSide, api.ErrBound},
		{api.MaxSide, api.MaxSide, api.MaxSide, api.ErrBound}, {43, 1, 3, api.ErrBound}, {1, 43, 3, api.ErrBound}, {64, 65, 2, api.ErrBound}, {65, 64, 2, api.ErrBound}, {64, 64, 2, nil},
	} {
		got, err := field.Fine(flat(c.wide, c.high, 7), c.by)
		if err != c.err || err != nil && !nothing(got) || err == nil && !same(got, flat(c.wide*c.by, c.high*c.by, 7)) {
			t.Error(c, got.Wide, got.High, err)
		}
	}
	full := flat(api.MaxSide, api.MaxSide, -api.MaxHigh)
	if got, err := field.Coarse(full, api.MaxSide); err != nil || !same(got, raster(1, -api.MaxHigh)) {
		t.Error(got, err)
	}
}

// P94: by from 1 to MaxSide; that is told ahead of a side.
func TestScaleShapes(t *testing.T) {
	for _, a := range []api.Raster{raster(1, 5), raster(2, 1, 2, 3, 4), flat(api.MaxSide, api.MaxSide, 0)} {
		for _, by := range []int{0, -1, -api.MaxSide, api.MaxSide + 1, math.MaxInt, math.MinInt, 1 << 62, 1 << 57} {
			for _, call := range calls[5:] {
				if got, err := call.of(a, by); err != api.ErrShape || !nothing(got) {
					t.Error(call.name, by, got, err)
				}
			}
		}
	}
}
