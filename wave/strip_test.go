package wave_test

import (
	"math"
	"testing"

	"mercator/api"
	"mercator/globe"
	"mercator/grain"
	"mercator/wave"
)

func strip(t *testing.T, which int, mid int, scale float64) wave.Strip {
	t.Helper()
	return wave.Strip{Globe: globeOf(t, which), Mid: mid, Scale: scale}
}

func place(lon, lat int) api.Place { return api.Place{Lon: lon, Lat: lat} }

func point(x, y float64) api.Flat { return api.Flat{X: x, Y: y} }

// wrongTo: To and Turned tell one error, and nothing else.
func wrongTo(t *testing.T, s wave.Strip, at api.Place, want error) {
	t.Helper()
	f, err := s.To(at)
	scale, turn, other := s.Turned(at)
	if err != want || other != want || f != (api.Flat{}) || scale != 0 || turn != 0 {
		t.Error(s, at, f, err, scale, turn, other)
	}
}

// wrongFrom: From tells an error, and nothing else.
func wrongFrom(t *testing.T, s wave.Strip, f api.Flat, want error) {
	t.Helper()
	if at, err := s.From(f); err != want || at != (api.Place{}) {
		t.Error(s, f, at, err)
	}
}

// P52.
func TestValid(t *testing.T) {
	for which := range slight + 1 {
		for _, scale := range []float64{0.1, 1, 10} {
			for _, mid := range []int{0, math.MaxInt, math.MinInt} {
				if s := strip(t, which, mid, scale); s.Valid() != nil {
					t.Error(s, s.Valid())
				}
			}
		}
	}
}

// P52, P53, P54: every call tells the error of the strip, whatever else is wrong.
func TestNotValid(t *testing.T) {
	var wrong []wave.Strip
	for _, scale := range []float64{0, -1, math.Nextafter(0.1, 0), math.Nextafter(10, 11), math.NaN(), math.Inf(1), math.Inf(-1)} {
		wrong = append(wrong, strip(t, wgs84, 0, scale), wave.Strip{Scale: scale})
	}
	for _, g := range notGlobes() {
		wrong = append(wrong, wave.Strip{Globe: g, Scale: 1})
	}
	for _, s := range wrong {
		if err := s.Valid(); err != api.ErrShape {
			t.Error(s, err)
		}
		for _, at := range []api.Place{{}, {Lat: api.Turn / 4}, {Lon: api.Turn / 4}} {
			wrongTo(t, s, at, api.ErrShape)
		}
		for _, f := range []api.Flat{{}, {X: math.NaN()}, {Y: 1e12}} {
			wrongFrom(t, s, f, api.ErrShape)
		}
	}
}

// P1, P3: whatever comes in, the calls end, and with an error nothing else is told.
func TestOddThings(t *testing.T) {
	odd := []float64{math.NaN(), math.Inf(1), math.Inf(-1), math.MaxFloat64, math.SmallestNonzeroFloat64, math.Copysign(0, -1), 0, 0.25, 1, -1, 1e9, 6.4e6}
	whole := []int{0, 1, -1, 45 * degree, -89 * degree, api.Turn / 2, math.MaxInt, math.MinInt}
	for _, a := range odd {
		for _, f := range odd {
			for _, scale := range odd {
				for i, mid := range whole {
					s := wave.Strip{Globe: globe.Globe{A: a, F: f}, Mid: mid, Scale: scale}
					for j, lon := range whole {
						askPlace(t, s, place(lon, whole[(i+j)%len(whole)]))
						askPoint(t, s, point(odd[i], odd[j]))
					}
				}
			}
		}
	}
}

func askPlace(t *testing.T, s wave.Strip, at api.Place) {
	t.Helper()
	f, err := s.To(at)
	scale, turn, other := s.Turned(at)
	if err != nil {
		wrongTo(t, s, at, err)
	} else if other != nil || math.IsNaN(f.X+f.Y+scale) || !(scale > 0) || turn != grain.Signed(turn) {
		t.Error(s, at, f, scale, turn, other)
	}
	if s.Valid() != nil && err != s.Valid() {
		t.Error(s, at, err)
	}
}

func askPoint(t *testing.T, s wave.Strip, f api.Flat) {
	t.Helper()
	at, err := s.From(f)
	if err != nil {
		wrongFrom(t, s, f, err)
	} else if at != place(grain.Signed(at.Lon), min(max(at.Lat, -89*degree), 89*degree)) {
		t.Error(s, f, at)
	}
	if s.Valid() != nil && err != s.Valid() {
		t.Error(s, f, err)
	}
}
