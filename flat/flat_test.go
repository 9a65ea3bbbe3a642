package flat_test

import (
	"math"
	"testing"

	"mercator/api"
	"mercator/flat"
	"mercator/globe"
)

func kinds() []string { return []string{"mercator", "equal", "polar"} }

// notGlobes: what is beside the bounds of a globe.
func notGlobes() []globe.Globe {
	nan, inf := math.NaN(), math.Inf(1)
	return []globe.Globe{{}, {A: math.Nextafter(1, 0)}, {A: math.Nextafter(1e9, inf)}, {A: nan}, {A: inf}, {A: 1, F: math.Nextafter(0.25, 1)}, {A: 1, F: -math.SmallestNonzeroFloat64}, {A: 1, F: -3}, {A: 1, F: nan}, {A: 1, F: -inf}}
}

// wrong: every call tells the error of the paper, whatever else is wrong.
func wrong(t *testing.T, p flat.Paper, want error) {
	t.Helper()
	if err := p.Valid(); err != want {
		t.Error(p, err)
	}
	for _, at := range []api.Place{{}, {Lat: api.Turn / 4}} {
		wrongTo(t, p, at, want)
	}
	for _, f := range []api.Flat{{}, {X: math.NaN()}, {Y: 1e9}} {
		wrongFrom(t, p, f, want)
	}
}

// P40.
func TestValid(t *testing.T) {
	for _, kind := range kinds() {
		for which := range slight + 1 {
			for _, scale := range []float64{0.1, 1, 10} {
				for _, mid := range []int{0, math.MaxInt, math.MinInt} {
					if p := paper(t, which, kind, mid, scale); p.Valid() != nil {
						t.Error(p, p.Valid())
					}
				}
			}
		}
	}
}

// P40: of several errors the first one is told.
func TestNotValid(t *testing.T) {
	scales := []float64{0, -1, math.Nextafter(0.1, 0), math.Nextafter(10, 11), math.NaN(), math.Inf(1), math.Inf(-1)}
	for _, kind := range kinds() {
		for _, scale := range scales {
			wrong(t, paper(t, wgs84, kind, 0, scale), api.ErrShape)
		}
	}
	for _, kind := range []string{"", "Mercator", "mercator ", "conic", "equa", "polarr", "\xff"} {
		for _, scale := range append(scales, 1) {
			wrong(t, paper(t, wgs84, kind, 0, scale), api.ErrName)
			for _, g := range notGlobes() {
				wrong(t, flat.Paper{Globe: g, Kind: kind, Scale: scale}, api.ErrShape)
			}
		}
	}
	for _, g := range notGlobes() {
		wrong(t, flat.Paper{Globe: g, Kind: "equal", Scale: 1}, api.ErrShape)
	}
}
