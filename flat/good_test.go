package flat_test

import (
	"math"
	"math/rand"
	"testing"

	"mercator/api"
	"mercator/flat"
	"mercator/globe"
	"mercator/grain"
)

// pick a number, often an end of what there is.
func pick(r *rand.Rand, low, high float64) float64 {
	switch r.Intn(6) {
	case 0:
		return low
	case 1:
		return high
	}
	return low + (high-low)*r.Float64()
}

// flattening that P45 speaks of; hardly any among them.
func flattening(r *rand.Rand) float64 {
	if r.Intn(3) == 0 {
		return math.Pow(10, -2-40*r.Float64())
	}
	return pick(r, 0, 0.01)
}

// drawn: paper and a place that P45 speaks of.
func drawn(r *rand.Rand, kind string) (flat.Paper, api.Place) {
	g := globe.Globe{A: pick(r, 1e6, 1e7), F: flattening(r)}
	p := flat.Paper{Globe: g, Kind: kind, Mid: r.Intn(2*api.Turn) - api.Turn, Scale: pick(r, 0.5, 2)}
	least := -85.0 * degree
	if kind == "polar" {
		least = degree
	}
	return p, place(p.Mid+int(pick(r, -170*degree, 170*degree)), int(pick(r, least, 85*degree)))
}

func apart(a, b int) float64 { return math.Abs(float64(grain.Signed(a - b))) }

// P45.
func TestFromOfTo(t *testing.T) {
	r := rand.New(rand.NewSource(45))
	for _, kind := range kinds() {
		for range 20000 {
			p, at := drawn(r, kind)
			f, err := p.To(at)
			if err != nil {
				t.Fatal(p, at, err)
			}
			most := 50.0
			if kind == "polar" {
				most /= math.Cos(float64(at.Lat) * api.Rad)
			}
			back, err := p.From(f)
			if err != nil || apart(back.Lon, at.Lon) > most || apart(back.Lat, at.Lat) > 50 {
				t.Error(p, at, f, back, err)
			}
			if back.Lon <= -api.Turn/2 || back.Lon > api.Turn/2 {
				t.Error(p, at, back)
			}
		}
	}
}

// P45: shapes stay, or areas.
func TestWhatStays(t *testing.T) {
	r := rand.New(rand.NewSource(46))
	for _, kind := range kinds() {
		for range 50000 {
			p, at := drawn(r, kind)
			along, across, err := p.Stretch(at)
			off := math.Abs(along/across - 1)
			if kind == "equal" {
				off = math.Abs(along*across - 1)
			}
			if err != nil || !(off <= 1e-12) {
				t.Error(p, at, along, across, err)
			}
		}
	}
}

// P45.
func TestFartherNorthIsFartherUp(t *testing.T) {
	r := rand.New(rand.NewSource(47))
	for _, kind := range []string{"mercator", "equal"} {
		for range 50000 {
			p, at := drawn(r, kind)
			north := at
			north.Lat += 1000
			if r.Intn(4) == 0 {
				north.Lat += r.Intn(degree)
			}
			if north.Lat > 85*degree {
				continue
			}
			f, err := p.To(at)
			g, other := p.To(north)
			if err != nil || other != nil || !(g.Y > f.Y) {
				t.Error(p, at, north, f, g, err, other)
			}
		}
	}
}

// P44: a small step becomes longer as Stretch tells.
func TestStretchOfSteps(t *testing.T) {
	const step = 1000000 // nanodegrees
	for _, kind := range kinds() {
		for _, which := range []int{wgs84, ball, one} {
			for lat := 2 * degree; lat < 85*degree; lat += 7 * degree {
				p := paper(t, which, kind, 5*degree, 1.5)
				along, across, _ := p.Stretch(place(9*degree, lat))
				s := math.Sin(float64(lat) * api.Rad)
				n := p.Globe.Cross(lat)
				m := n * (1 - p.Globe.Bulge()) / (1 - p.Globe.Bulge()*s*s)
				up := between(p, place(9*degree, lat-step), place(9*degree, lat+step)) / (m * 2 * step * api.Rad)
				side := between(p, place(9*degree-step, lat), place(9*degree+step, lat)) / (n * math.Sqrt(1-s*s) * 2 * step * api.Rad)
				if math.Abs(up/along-1) > 1e-6 || math.Abs(side/across-1) > 1e-6 {
					t.Error(kind, which, lat, up, along, side, across)
				}
			}
		}
	}
}

// between two places, how far is it on paper?
func between(p flat.Paper, a, b api.Place) float64 {
	f, _ := p.To(a)
	g, _ := p.To(b)
	return math.Hypot(g.X-f.X, g.Y-f.Y)
}
