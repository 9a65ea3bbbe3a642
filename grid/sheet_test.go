package grid_test

import (
	"math"
	"math/rand"
	"slices"
	"testing"

	"mercator/api"
	"mercator/grid"
)

const most = api.MaxPlace

func box(lowX, lowY, highX, highY int) api.Box {
	return api.Box{Low: api.Spot{X: lowX, Y: lowY}, High: api.Spot{X: highX, Y: highY}}
}

func sheet(col, row int, b api.Box) grid.Sheet { return grid.Sheet{Col: col, Row: row, Box: b} }

func notBoxes() []api.Box {
	out := []api.Box{box(1, 0, 0, 0), box(0, 1, 0, 0), box(0, 0, -1, 5), box(most, 0, -most, 0), box(0, most, 0, -most), box(math.MaxInt, math.MaxInt, math.MinInt, math.MinInt), box(math.MinInt, math.MinInt, math.MaxInt, math.MaxInt)}
	for _, n := range []int{most + 1, math.MaxInt} {
		out = append(out, box(0, 0, n, 0), box(0, 0, 0, n), box(n, 0, n, 0), box(0, n, 0, n))
	}
	for _, n := range []int{-most - 1, math.MinInt} {
		out = append(out, box(n, 0, 0, 0), box(0, n, 0, 0), box(n, 0, n, 0), box(0, n, 0, n))
	}
	return out
}

// P64.
func TestSheets(t *testing.T) {
	for _, c := range []struct {
		all             api.Box
		wide, high, lap int
		want            []grid.Sheet
	}{
		{box(0, 0, 10, 4), 5, 5, 1, []grid.Sheet{sheet(0, 0, box(-1, -1, 5, 5)), sheet(1, 0, box(4, -1, 10, 5)), sheet(2, 0, box(9, -1, 15, 5))}},
		{box(0, 0, 9, 4), 5, 5, 0, []grid.Sheet{sheet(0, 0, box(0, 0, 4, 4)), sheet(1, 0, box(5, 0, 9, 4))}},
		{box(-3, 7, 0, 9), 3, 2, 0, []grid.Sheet{sheet(0, 0, box(-3, 7, -1, 8)), sheet(1, 0, box(0, 7, 2, 8)), sheet(0, 1, box(-3, 9, -1, 10)), sheet(1, 1, box(0, 9, 2, 10))}},
		{box(5, -5, 5, -5), 1, 1, 0, []grid.Sheet{sheet(0, 0, box(5, -5, 5, -5))}},
		{box(5, -5, 5, -4), 10, 1, 2, []grid.Sheet{sheet(0, 0, box(3, -7, 16, -3)), sheet(0, 1, box(3, -6, 16, -2))}},
		{box(-most, -most, most, most), 2 * most, 2 * most, most, []grid.Sheet{
			sheet(0, 0, box(-2*most, -2*most, 2*most-1, 2*most-1)), sheet(1, 0, box(0, -2*most, 4*most-1, 2*most-1)),
			sheet(0, 1, box(-2*most, 0, 2*most-1, 4*most-1)), sheet(1, 1, box(0, 0, 4*most-1, 4*most-1)),
		}},
	} {
		if l, err := grid.Sheets(c.all, c.wide, c.high, c.lap); err != nil || !slices.Equal(l, c.want) {
			t.Error(c, l, err)
		}
	}
}

// P64: without laps each point of the box is on one sheet, which its column and its row tell; with laps on all that it is near.
func TestSheetsPartTheBox(t *testing.T) {
	r := rand.New(rand.NewSource(64))
	for range 300 {
		low := api.Spot{X: r.Intn(40) - 20, Y: r.Intn(40) - 20}
		all := api.Box{Low: low, High: api.Spot{X: low.X + r.Intn(15), Y: low.Y + r.Intn(15)}}
		wide, high, lap := r.Intn(9)+1, r.Intn(9)+1, r.Intn(4)
		bare, err := grid.Sheets(all, wide, high, 0)
		lapped, other := grid.Sheets(all, wide, high, lap)
		if err != nil || other != nil || len(bare) != len(lapped) {
			t.Fatal(all, wide, high, lap, err, other)
		}
		for y := all.Low.Y; y <= all.High.Y; y++ {
			for x := all.Low.X; x <= all.High.X; x++ {
				on := grid.On(bare, api.Spot{X: x, Y: y})
				if len(on) != 1 || bare[on[0]].Col != (x-low.X)/wide || bare[on[0]].Row != (y-low.Y)/high {
					t.Error(all, wide, high, x, y, on)
				}
			}
		}
		checkLaps(t, all, bare, lapped, lap)
	}
}

// checkLaps: sheets go row by row, none is without a point of the box, and each is by its lap greater than it would be without.
func checkLaps(t *testing.T, all api.Box, bare, lapped []grid.Sheet, lap int) {
	t.Helper()
	cols := bare[len(bare)-1].Col + 1
	for i, s := range bare {
		if s.Col != i%cols || s.Row != i/cols || s.Box.Low.X > all.High.X || s.Box.Low.Y > all.High.Y {
			t.Error(all, i, s)
		}
		b := s.Box
		if lapped[i] != sheet(s.Col, s.Row, box(b.Low.X-lap, b.Low.Y-lap, b.High.X+lap, b.High.Y+lap)) {
			t.Error(all, lap, i, s, lapped[i])
		}
	}
}

// P64.
func TestSheetsOfWrongShapes(t *testing.T) {
	for _, b := range notBoxes() {
		wrongSheets(t, b, 1, 1, 0, api.ErrShape)
		wrongSheets(t, b, 2*most, 2*most, most, api.ErrShape)
		wrongSheets(t, b, 0, 0, -1, api.ErrShape)
	}
	for _, all := range []api.Box{box(0, 0, 5, 5), box(-most, -most, most, most)} { // of the great one there are too many sheets too
		for _, n := range []int{0, -1, 2*most + 1, math.MaxInt, math.MinInt} {
			wrongSheets(t, all, n, 1, 0, api.ErrShape)
			wrongSheets(t, all, 1, n, 0, api.ErrShape)
		}
		for _, n := range []int{-1, most + 1, math.MaxInt, math.MinInt} {
			wrongSheets(t, all, 1, 1, n, api.ErrShape)
		}
	}
}

// P64.
func TestSheetsOfBounds(t *testing.T) {
	for _, all := range []api.Box{box(0, 0, 999, 3), box(0, 0, 3999, 0), box(7, -3999, 7, 0), box(-most, most-39, -most+99, most)} {
		if l, err := grid.Sheets(all, 1, 1, 0); len(l) != api.MaxList || err != nil {
			t.Error(all, len(l), err)
		}
	}
	for _, all := range []api.Box{box(0, 0, 1000, 3), box(0, 0, 4000, 0), box(0, 0, 0, 4000), box(0, 0, 63, 62), box(-most, -most, most, most)} {
		wrongSheets(t, all, 1, 1, 0, api.ErrBound)
	}
	wrongSheets(t, box(0, 0, 8000, 0), 2, 1, 0, api.ErrBound)
	if l, err := grid.Sheets(box(0, 0, 7999, 0), 2, 1, 0); len(l) != api.MaxList || err != nil {
		t.Error(len(l), err)
	}
}

// wrongSheets: Sheets tells an error, and nothing else.
func wrongSheets(t *testing.T, all api.Box, wide, high, lap int, want error) {
	t.Helper()
	if l, err := grid.Sheets(all, wide, high, lap); len(l) != 0 || err != want {
		t.Error(all, wide, high, lap, len(l), err)
	}
}

// P64.
func TestOn(t *testing.T) {
	l := []grid.Sheet{
		sheet(0, 0, box(-1, -1, 5, 5)), sheet(7, 7, box(4, -1, 10, 5)), sheet(0, 0, box(9, -1, 15, 5)),
		sheet(0, 0, box(5, 5, 4, 4)), sheet(-1, -1, box(4, 4, 4, 4)), sheet(0, 0, box(math.MinInt, math.MinInt, math.MaxInt, math.MaxInt)),
	}
	kept := slices.Clone(l)
	for p, want := range map[api.Spot][]int{
		{X: 4}: {0, 1, 5}, {X: 9, Y: 5}: {1, 2, 5}, {X: 7, Y: 6}: {5}, {X: 4, Y: 4}: {0, 1, 4, 5}, {X: -1, Y: -1}: {0, 5}, {X: -2, Y: -1}: {5}, {X: -1, Y: -2}: {5},
		{X: 5, Y: 5}: {0, 1, 5}, {X: 15, Y: 5}: {2, 5}, {X: 16, Y: 5}: {5}, {X: 15, Y: -2}: {5}, {X: math.MinInt, Y: math.MaxInt}: {5},
	} {
		got := grid.On(l, p)
		if !slices.Equal(got, want) {
			t.Error(p, got, want)
		}
	}
	if got := grid.On(l[:5], api.Spot{X: 7, Y: 6}); len(got) != 0 {
		t.Error(got)
	}
	if got := grid.On(nil, api.Spot{}); len(got) != 0 {
		t.Error(got)
	}
	if !slices.Equal(l, kept) {
		t.Error(l)
	}
}

// P64, P4: what was answered is nobody else's.
func TestSheetsAreNew(t *testing.T) {
	l, _ := grid.Sheets(box(0, 0, 10, 4), 5, 5, 1)
	want := slices.Clone(l)
	clear(l)
	if again, err := grid.Sheets(box(0, 0, 10, 4), 5, 5, 1); err != nil || !slices.Equal(again, want) {
		t.Error(again, err)
	}
}
