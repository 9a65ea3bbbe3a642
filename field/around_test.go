package field_test

import (
	"math"
	"math/rand"
	"slices"
	"testing"

	"mercator/api"
	"mercator/field"
)

// near: the heights of the cells around one, found by asking all of them.
func near(a api.Raster, cell, reach int) []int {
	var out []int
	for other, height := range a.L {
		rows, cols := other/a.Wide-cell/a.Wide, other%a.Wide-cell%a.Wide
		if max(rows, -rows) <= reach && max(cols, -cols) <= reach {
			out = append(out, height)
		}
	}
	return out
}

// lowMean: the sum over how many there are, rounded down; exact, for numbers with a point hold such sums.
func lowMean(l []int) int {
	sum := 0
	for _, n := range l {
		sum += n
	}
	return int(math.Floor(float64(sum) / float64(len(l))))
}

// eachOf all cells: what is told of those around it.
func eachOf(a api.Raster, reach int, of func([]int) int) api.Raster {
	out := flat(a.Wide, a.High, 0)
	for cell := range a.L {
		out.L[cell] = of(near(a, cell, reach))
	}
	return out
}

func greatest(l []int) int { return slices.Max(l) }

func least(l []int) int { return slices.Min(l) }

// P92: rows that were worked out by hand.
func TestAround(t *testing.T) {
	bump := raster(5, 0, 0, 0, 0, 0, 0, 9, 9, 9, 0, 0, 9, 9, 9, 0, 0, 9, 9, 9, 5, 0, 0, 0, 0, 0)
	for _, c := range []struct {
		name  string
		of    func(api.Raster, int) (api.Raster, error)
		a     api.Raster
		reach int
		want  api.Raster
	}{
		{"Mean", field.Mean, raster(3, 1, 2, 3), 1, raster(3, 1, 2, 2)},
		{"Mean", field.Mean, raster(1, 1, 2, 3), 1, raster(1, 1, 2, 2)},
		{"Mean", field.Mean, raster(3, -1, -2, -3), 1, raster(3, -2, -2, -3)},
		{"Mean", field.Mean, raster(2, -1, 0), 1, raster(2, -1, -1)},
		{"Mean", field.Mean, raster(2, -2, 0, 0, 0), 5, raster(2, -1, -1, -1, -1)},
		{"Mean", field.Mean, raster(2, -4, 0, 0, 0), 5, raster(2, -1, -1, -1, -1)},
		{"Mean", field.Mean, raster(2, -5, 0, 0, 0), 5, raster(2, -2, -2, -2, -2)},
		{"Mean", field.Mean, raster(2, 3, 0, 0, 0), 5, raster(2, 0, 0, 0, 0)},
		{"Most", field.Most, raster(4, 1, 2, 3, 0), 1, raster(4, 2, 3, 3, 3)},
		{"Most", field.Most, raster(4, 9, 2, 3, 0), 2, raster(4, 9, 9, 9, 3)},
		{"Least", field.Least, raster(4, 1, 2, 3, 0), 1, raster(4, 1, 1, 0, 0)},
		{"Least", field.Least, raster(1, -1, 2, 3, 0), 2, raster(1, -1, -1, -1, 0)},
		// A square of 9 stays, the spur of 5 goes.
		{"Open", field.Open, bump, 1, raster(5, 0, 0, 0, 0, 0, 0, 9, 9, 9, 0, 0, 9, 9, 9, 0, 0, 9, 9, 9, 0, 0, 0, 0, 0, 0)},
		{"Open", field.Open, bump, 2, flat(5, 5, 0)},
		{"Close", field.Close, raster(5, 3, 0, 3, 0, 0), 1, raster(5, 3, 3, 3, 0, 0)},
		{"Close", field.Close, raster(1, 3, 0, 0, 3, 0), 1, raster(1, 3, 3, 3, 3, 3)},
	} {
		if got, err := c.of(c.a, c.reach); err != nil || !same(got, c.want) {
			t.Error(c.name, c.a, c.reach, got, err, c.want)
		}
	}
}

// P92: any reach, held against what is found by asking all cells.
func TestAroundSamples(t *testing.T) {
	down := 0
	for _, a := range samples(92) {
		for _, reach := range []int{0, 1, 2, 3, 10, 39, 40, api.MaxSide} {
			mean, most, low := eachOf(a, reach, lowMean), eachOf(a, reach, greatest), eachOf(a, reach, least)
			for _, c := range []struct {
				name string
				of   func(api.Raster, int) (api.Raster, error)
				want api.Raster
			}{
				{"Mean", field.Mean, mean}, {"Most", field.Most, most}, {"Least", field.Least, low},
				{"Open", field.Open, eachOf(low, reach, greatest)}, {"Close", field.Close, eachOf(most, reach, least)},
			} {
				if got, err := c.of(a, reach); err != nil || !same(got, c.want) {
					t.Error(c.name, a, reach, got, err, c.want)
				}
			}
			if slices.Min(mean.L) < 0 {
				down++
			}
		}
	}
	if down < 50 {
		t.Error("samples are too much alike", down)
	}
}

// P92: the greatest raster, the greatest heights, the farthest reach.
func TestAroundFull(t *testing.T) {
	a := flat(api.MaxSide, api.MaxSide, api.MaxHigh)
	for _, call := range calls[:5] {
		if got, err := call.of(a, api.MaxSide); err != nil || !same(got, a) {
			t.Error(call.name, err)
		}
	}
	// One cell in a corner is within reach of all others but by one row or column less.
	a = flat(api.MaxSide, api.MaxSide, 0)
	a.L[len(a.L)-1] = 5
	got, err := field.Most(a, api.MaxSide-2)
	for cell, height := range got.L {
		want := 5
		if cell < api.MaxSide || cell%api.MaxSide == 0 {
			want = 0
		}
		if height != want {
			t.Fatal(cell, height, want)
		}
	}
	if all, other := field.Most(a, api.MaxSide-1); err != nil || other != nil || !same(all, flat(api.MaxSide, api.MaxSide, 5)) {
		t.Error(err, other)
	}
}

// P92: opened twice is opened once, and never higher; closed twice is closed once, and never lower.
func TestOpenedTwice(t *testing.T) {
	changed := 0
	for _, a := range samples(93) {
		for _, reach := range []int{0, 1, 2, 7} {
			open, _ := field.Open(a, reach)
			again, err := field.Open(open, reach)
			if err != nil || !same(open, again) {
				t.Error(a, reach, open, again, err)
			}
			closed, _ := field.Close(a, reach)
			twice, err := field.Close(closed, reach)
			if err != nil || !same(closed, twice) {
				t.Error(a, reach, closed, twice, err)
			}
			for cell, height := range a.L {
				if open.L[cell] > height || closed.L[cell] < height {
					t.Fatal(a, reach, cell)
				}
			}
			if !same(open, a) && !same(open, closed) {
				changed++
			}
		}
	}
	if changed < 30 {
		t.Error("samples are too much alike", changed)
	}
}

// P92: reaches from 0 to MaxSide.
func TestReach(t *testing.T) {
	r := rand.New(rand.NewSource(3))
	for _, call := range calls[:5] {
		for _, reach := range []int{-1, api.MaxSide + 1, math.MinInt, math.MaxInt, -api.MaxSide} {
			if got, err := call.of(sample(r, 3, 2, 9), reach); err != api.ErrShape || !nothing(got) {
				t.Error(call.name, reach, got, err)
			}
		}
		for _, reach := range []int{0, api.MaxSide} {
			if _, err := call.of(sample(r, 3, 2, 9), reach); err != nil {
				t.Error(call.name, reach, err)
			}
		}
	}
}
