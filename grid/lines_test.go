package grid_test

import (
	"math"
	"slices"
	"testing"

	"mercator/api"
	"mercator/grid"
)

// P65.
func TestLines(t *testing.T) {
	for _, c := range []struct {
		b      api.Box
		step   int
		xs, ys []int
	}{
		{box(-7, 1, 10, 4), 5, []int{-5, 0, 5, 10}, nil},
		{box(-10, -9, -5, -6), 5, []int{-10, -5}, nil},
		{box(0, 0, 0, 0), 7, []int{0}, []int{0}},
		{box(1, -1, 1, -1), 1, []int{1}, []int{-1}},
		{box(1, -1, 1, -1), 2, nil, nil},
		{box(-1, -1, 1, 1), math.MaxInt, []int{0}, []int{0}},
		{box(1, -most, most, -1), math.MaxInt, nil, nil},
		{box(-most, -most, most, most), most, []int{-most, 0, most}, []int{-most, 0, most}},
		{box(-most, 1, most, most), most + 1, []int{0}, nil},
		{box(-most, -most, most, -1), most - 1, []int{1 - most, 0, most - 1}, []int{1 - most}},
	} {
		xs, ys, err := grid.Lines(c.b, c.step)
		if err != nil || !slices.Equal(xs, c.xs) || !slices.Equal(ys, c.ys) {
			t.Error(c, xs, ys, err)
		}
	}
}

// P65: every number of a box, asked one by one.
func TestLinesOneByOne(t *testing.T) {
	for low := -9; low <= 9; low++ {
		for high := low; high <= 9; high++ {
			for step := 1; step <= 12; step++ {
				var want []int
				for n := low; n <= high; n++ {
					if n%step == 0 {
						want = append(want, n)
					}
				}
				xs, other, err := grid.Lines(box(low, 0, high, 0), step)
				if err != nil || !slices.Equal(xs, want) || !slices.Equal(other, []int{0}) {
					t.Error(low, high, step, xs, other, err)
				}
				other, ys, err := grid.Lines(box(0, low, 0, high), step)
				if err != nil || !slices.Equal(ys, want) || !slices.Equal(other, []int{0}) {
					t.Error(low, high, step, other, ys, err)
				}
			}
		}
	}
}

// wrongLines: Lines tells an error, and nothing else.
func wrongLines(t *testing.T, b api.Box, step int, want error) {
	t.Helper()
	if xs, ys, err := grid.Lines(b, step); len(xs) != 0 || len(ys) != 0 || err != want {
		t.Error(b, step, len(xs), len(ys), err)
	}
}

// P65.
func TestLinesOfWrongShapes(t *testing.T) {
	for _, b := range notBoxes() {
		for _, step := range []int{-1, 0, 1, most, math.MaxInt} {
			wrongLines(t, b, step, api.ErrShape)
		}
	}
	for _, step := range []int{0, -1, math.MinInt} {
		wrongLines(t, box(0, 0, 1, 1), step, api.ErrShape)
		wrongLines(t, box(-most, -most, most, most), step, api.ErrShape)
	}
}

// P65: so many of either, not of both together.
func TestLinesOfBounds(t *testing.T) {
	for _, b := range []api.Box{box(1, 1, 4000, 4000), box(-4000, 0, -1, 3999), box(-most, most-3999, -most+3999, most)} {
		if xs, ys, err := grid.Lines(b, 1); len(xs) != api.MaxList || len(ys) != api.MaxList || err != nil {
			t.Error(b, len(xs), len(ys), err)
		}
	}
	for _, b := range []api.Box{box(0, 0, 4000, 0), box(0, 0, 0, 4000), box(-2000, -2000, 2000, 2000), box(-most, 1, most, 1), box(-most, -most, most, most)} {
		wrongLines(t, b, 1, api.ErrBound)
	}
	wrongLines(t, box(0, 1, 12000, 1), 3, api.ErrBound)
	if xs, ys, err := grid.Lines(box(0, 1, 11999, 1), 3); len(xs) != api.MaxList || len(ys) != 0 || err != nil {
		t.Error(len(xs), len(ys), err)
	}
}

// P65, P4: neither list reaches into the other one, nor into what is told later.
func TestLinesAreNew(t *testing.T) {
	xs, ys, _ := grid.Lines(box(0, 0, 4, 4), 2)
	_ = append(xs, 77)
	clear(xs)
	if !slices.Equal(ys, []int{0, 2, 4}) {
		t.Error(ys)
	}
	if again, _, err := grid.Lines(box(0, 0, 4, 4), 2); err != nil || !slices.Equal(again, []int{0, 2, 4}) {
		t.Error(again, err)
	}
}
