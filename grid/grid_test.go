package grid_test

import (
	"math"
	"testing"

	"mercator/api"
	"mercator/grid"
)

const degree = api.Turn / 360

// P60.
func TestZone(t *testing.T) {
	for lon, want := range map[int]int{
		0: 31, -1: 30, 9 * degree: 32, 6*degree - 1: 31, 6 * degree: 32,
		180 * degree: 1, -180 * degree: 1, 540 * degree: 1, 180*degree - 1: 60, -180*degree - 1: 60, 180*degree + 1: 1,
		-174*degree - 1: 1, -174 * degree: 2, 174*degree - 1: 59, 174 * degree: 60,
		math.MaxInt: 23, math.MinInt: 38,
	} {
		if got := grid.Zone(lon); got != want {
			t.Error(lon, got, want)
		}
	}
}

// P60: every zone, from its first longitude to its last one, and so often around as a longitude may be.
func TestZoneEnds(t *testing.T) {
	for zone := 1; zone <= 60; zone++ {
		west := (6*zone - 186) * degree
		for _, turns := range []int{0, 1, -1, 25000000, -25000000} {
			for _, east := range []int{0, 1, 3 * degree, 6*degree - 1} {
				if got := grid.Zone(west + east + turns*api.Turn); got != zone {
					t.Error(zone, turns, east, got)
				}
			}
		}
	}
}

// P60.
func TestMiddle(t *testing.T) {
	for zone, want := range map[int]int{1: -177 * degree, 2: -171 * degree, 30: -3 * degree, 31: 3 * degree, 32: 9 * degree, 60: 177 * degree} {
		if got, err := grid.Middle(zone); got != want || err != nil {
			t.Error(zone, got, err)
		}
	}
	for zone := 1; zone <= 60; zone++ {
		got, err := grid.Middle(zone)
		if err != nil || got != (6*zone-183)*degree || grid.Zone(got) != zone {
			t.Error(zone, got, err)
		}
	}
	for _, zone := range []int{0, 61, -1, -60, 1000, math.MaxInt, math.MinInt} {
		if got, err := grid.Middle(zone); got != 0 || err != api.ErrRange {
			t.Error(zone, got, err)
		}
	}
}
