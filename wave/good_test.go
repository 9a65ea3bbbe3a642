package wave_test

import (
	"math"
	"math/rand"
	"testing"

	"mercator/api"
	"mercator/globe"
	"mercator/grain"
	"mercator/wave"
)

// pick a number, often an end of what there is.
func pick(r *rand.Rand, low, high float64) float64 {
	switch r.Intn(6) {
	case 0:
		return low
	case 1:
		return high
	}
	return low + (high-low)*r.Float64()
}

// flattening up to a greatest one; hardly any among them.
func flattening(r *rand.Rand, most float64) float64 {
	if r.Intn(4) == 0 {
		return most * math.Pow(10, -40*r.Float64())
	}
	return pick(r, 0, most)
}

// P55.
func TestFromOfTo(t *testing.T) {
	r := rand.New(rand.NewSource(55))
	for _, c := range []struct{ flat, east, most float64 }{{0.01, 30 * degree, 5e5}, {0.004, 6 * degree, 2000}} {
		for range 50000 {
			g := globe.Globe{A: pick(r, 1e6, 1e7), F: flattening(r, c.flat)}
			s := wave.Strip{Globe: g, Mid: r.Intn(2*api.Turn) - api.Turn, Scale: pick(r, 0.1, 10)}
			at := place(s.Mid+int(pick(r, -c.east, c.east)), int(pick(r, -84*degree, 84*degree)))
			f, err := s.To(at)
			if err != nil {
				t.Fatal(s, at, err)
			}
			back, err := s.From(f)
			lon := math.Abs(float64(grain.Signed(back.Lon-at.Lon))) * math.Cos(float64(at.Lat)*api.Rad)
			if err != nil || lon > c.most || math.Abs(float64(back.Lat-at.Lat)) > c.most {
				t.Error(s, at, f, back, err)
			}
			if back.Lon != grain.Signed(back.Lon) {
				t.Error(s, at, back)
			}
		}
	}
}

// P54: a small step along the meridian becomes longer, and is turned to the left, as Turned tells.
func TestTurnedOfSteps(t *testing.T) {
	const step = 10000000 // nanodegrees: angles are whole, and so a smaller one would be too uneven
	for _, which := range []int{wgs84, bessel, ball} {
		s := strip(t, which, 5*degree, 0.9996)
		for lat := -84 * degree; lat <= 84*degree; lat += 7 * degree {
			for east := -30 * degree; east <= 30*degree; east += 6 * degree {
				lon := s.Mid + east
				scale, turn, err := s.Turned(place(lon, lat))
				a, b := drawn(t, s, place(lon, lat-step)), drawn(t, s, place(lon, lat+step))
				cross := s.Globe.Cross(lat)
				meridian := cross * cross * cross / (s.Globe.A * s.Globe.A) * (1 - s.Globe.Bulge())
				long := math.Hypot(b.X-a.X, b.Y-a.Y) / (meridian * 2 * step * api.Rad)
				left := math.Atan2(a.X-b.X, b.Y-a.Y) / api.Rad
				if err != nil || math.Abs(long/scale-1) > 1e-6 || math.Abs(left-float64(turn)) > 5000 {
					t.Error(which, lat, east, scale, long, turn, left, err)
				}
			}
		}
	}
}

// P52: on the middle meridian Y is as far as it is along the globe, at the strip's scale.
func TestToAlongMiddle(t *testing.T) {
	const parts = 2000
	s := strip(t, wgs84, 33*degree, 0.9996)
	long := 0.0
	for i := range parts {
		for _, half := range []int{1, 3} { // the middles of both halves of a piece
			cross := s.Globe.Cross((4*i + half) * (80 * degree / (4 * parts)))
			long += cross * cross * cross / (s.Globe.A * s.Globe.A) * (1 - s.Globe.Bulge()) * (80 * degree / (2 * parts)) * api.Rad
		}
	}
	f := drawn(t, s, place(s.Mid, 80*degree))
	if math.Abs(f.Y-0.9996*long) > 0.001 || f.X != 0 {
		t.Error(f, long)
	}
}

func drawn(t *testing.T, s wave.Strip, at api.Place) api.Flat {
	t.Helper()
	f, err := s.To(at)
	if err != nil {
		t.Fatal(s, at, err)
	}
	return f
}
