package field_test

import (
	"math"
	"math/rand"
	"slices"
	"sync"
	"testing"

	"mercator/api"
	"mercator/field"
)

// P93: rows that were worked out by hand.
func TestZones(t *testing.T) {
	for _, c := range []struct {
		a, zones api.Raster
		want     []field.Zone
	}{
		{raster(1, -4), raster(1, 0), []field.Zone{{Id: 0, Cells: 1, Sum: -4, Low: -4, High: -4}}},
		{raster(2, 1, 2, 3, 4), raster(2, 7, 7, 7, 7), []field.Zone{{Id: 7, Cells: 4, Sum: 10, Low: 1, High: 4}}},
		{raster(2, 5, 6, 7, 8), raster(2, 3, -3, 0, 1), []field.Zone{
			{Id: -3, Cells: 1, Sum: 6, Low: 6, High: 6}, {Id: 0, Cells: 1, Sum: 7, Low: 7, High: 7},
			{Id: 1, Cells: 1, Sum: 8, Low: 8, High: 8}, {Id: 3, Cells: 1, Sum: 5, Low: 5, High: 5}}},
		// Heights of one side of 0, so that no 0 slips in as the least or the greatest.
		{raster(2, -5, 6, -7, 8), raster(2, 1, 2, 1, 2), []field.Zone{
			{Id: 1, Cells: 2, Sum: -12, Low: -7, High: -5}, {Id: 2, Cells: 2, Sum: 14, Low: 6, High: 8}}},
		{raster(1, 0, 0, 0), raster(1, api.MaxHigh, -api.MaxHigh, api.MaxHigh), []field.Zone{
			{Id: -api.MaxHigh, Cells: 1}, {Id: api.MaxHigh, Cells: 2}}},
	} {
		for workers := 1; workers <= api.Workers; workers++ {
			if got, err := field.Zones(c.a, c.zones, workers); err != nil || !slices.Equal(got, c.want) {
				t.Error(workers, got, err, c.want)
			}
		}
	}
}

// zonesOf: for each number, all cells are asked again.
func zonesOf(a, zones api.Raster) []field.Zone {
	ids := slices.Clone(zones.L)
	slices.Sort(ids)
	var out []field.Zone
	for _, id := range slices.Compact(ids) {
		zone := field.Zone{Id: id, Low: math.MaxInt, High: math.MinInt}
		for cell, other := range zones.L {
			if other == id {
				zone.Cells++
				zone.Sum += a.L[cell]
				zone.Low = min(zone.Low, a.L[cell])
				zone.High = max(zone.High, a.L[cell])
			}
		}
		out = append(out, zone)
	}
	return out
}

// P93: samples, with however many workers.
func TestZonesSamples(t *testing.T) {
	r := rand.New(rand.NewSource(93))
	many := 0
	for _, a := range samples(94) {
		for _, size := range []int{0, 2, 30, api.MaxHigh} {
			zones := sample(r, a.Wide, a.High, size)
			want := zonesOf(a, zones)
			many += len(want)
			for workers := 1; workers <= api.Workers; workers++ {
				if got, err := field.Zones(a, zones, workers); err != nil || !slices.Equal(got, want) {
					t.Error(a, zones, workers, got, err, want)
				}
			}
		}
	}
	if many < 2000 {
		t.Error("samples are too much alike", many)
	}
}

// P93: the greatest raster, as one zone and as many as there are cells.
func TestZonesFull(t *testing.T) {
	a, zones := flat(api.MaxSide, api.MaxSide, api.MaxHigh), flat(api.MaxSide, api.MaxSide, 9)
	many := api.MaxSide * api.MaxSide
	got, err := field.Zones(a, zones, api.Workers)
	if want := (field.Zone{Id: 9, Cells: many, Sum: many * api.MaxHigh, Low: api.MaxHigh, High: api.MaxHigh}); err != nil || len(got) != 1 || got[0] != want {
		t.Error(got, err, want)
	}
	for cell := range zones.L {
		zones.L[cell], a.L[cell] = many/2-cell, cell
	}
	got, err = field.Zones(a, zones, 5)
	if err != nil || len(got) != many {
		t.Fatal(len(got), err)
	}
	for i, zone := range got {
		if cell := many - 1 - i; zone != (field.Zone{Id: many/2 - cell, Cells: 1, Sum: cell, Low: cell, High: cell}) {
			t.Error(i, zone)
		}
	}
}

// P2: many calls at once tell what one tells.
func TestZonesAtOnce(t *testing.T) {
	r := rand.New(rand.NewSource(2))
	a, zones := sample(r, 60, 70, 1000), sample(r, 60, 70, 8)
	want := zonesOf(a, zones)
	var busy sync.WaitGroup
	for n := range 64 {
		busy.Go(func() {
			if got, err := field.Zones(a, zones, n%api.Workers+1); err != nil || !slices.Equal(got, want) {
				t.Error(n, got, err)
			}
		})
	}
	busy.Wait()
}

// P93: workers from 1 to Workers, rasters of one size.
func TestZonesShapes(t *testing.T) {
	a := raster(2, 1, 2, 3, 4)
	for _, workers := range []int{0, -1, api.Workers + 1, math.MaxInt, math.MinInt} {
		if got, err := field.Zones(a, a, workers); err != api.ErrShape || len(got) > 0 {
			t.Error(workers, got, err)
		}
	}
	for _, b := range []api.Raster{raster(1, 1, 2, 3, 4), raster(4, 1, 2, 3, 4), raster(2, 1, 2), raster(1, 1, 2), raster(2, 1, 2, 3, 4, 5, 6)} {
		if got, err := field.Zones(a, b, 2); err != api.ErrShape || len(got) > 0 {
			t.Error(b, got, err)
		}
		if got, err := field.Zones(b, a, 2); err != api.ErrShape || len(got) > 0 {
			t.Error(b, got, err)
		}
	}
}
