package path_test

import (
	"math"
	"math/rand"
	"testing"

	"mercator/api"
	"mercator/globe"
	"mercator/grain"
	"mercator/path"
)

// pick a number, often an end of what there is.
func pick(r *rand.Rand, low, high float64) float64 {
	switch r.Intn(6) {
	case 0:
		return low
	case 1:
		return high
	}
	return low + (high-low)*r.Float64()
}

// pairOf places that P33 speaks of: far apart ones, meridians and the equator among them.
func pairOf(r *rand.Rand) (a, b api.Place, ok bool) {
	a = place(r.Intn(api.Turn)-api.Turn/2, int(pick(r, -80*degree, 80*degree)))
	switch r.Intn(8) {
	case 0:
		a.Lat = 0
		fallthrough
	case 1:
		b = place(a.Lon+r.Intn(api.Turn), a.Lat)
	case 2:
		b = place(a.Lon+r.Intn(api.Turn), -a.Lat)
	case 3:
		b = place(a.Lon+api.Turn/2+r.Intn(3)-1, int(pick(r, -80*degree, 80*degree)))
	default:
		out := api.Turn/4*r.Intn(4) + int(pick(r, 0, api.Turn/4))
		b, _ = path.Reach(globe.Globe{A: 6e6}, a, out, pick(r, 1, 170)*degree*api.Rad*6e6)
	}
	great := path.Great(a, b)
	return a, b, great >= degree && great <= 170*degree && b.Lat >= -80*degree && b.Lat <= 80*degree
}

// P33.
func TestThereAndBack(t *testing.T) {
	r := rand.New(rand.NewSource(33))
	tried := 0
	for range 60000 {
		g := globe.Globe{A: pick(r, 6e6, 6.5e6), F: pick(r, 0, 0.01)}
		a, b, ok := pairOf(r)
		if !ok {
			continue
		}
		tried++
		l, err := path.Between(g, a, b)
		if err != nil {
			t.Error(g, a, b, err)
			continue
		}
		c, err := path.Reach(g, a, l.Out, l.Far)
		if off := apart(t, g, b, c); err != nil || !(off <= 0.02) {
			t.Error(g, a, b, l, c, off, err)
		}
	}
	if tried < 30000 {
		t.Error(tried)
	}
}

// apart: how far two places are from each other, straight through the globe.
func apart(t *testing.T, g globe.Globe, p, q api.Place) float64 {
	t.Helper()
	v, err := g.Vec(p, 0)
	w, other := g.Vec(q, 0)
	if err != nil || other != nil {
		t.Fatal(g, p, q, err, other)
	}
	return grain.Length(api.Vec{X: v.X - w.X, Y: v.Y - w.Y, Z: v.Z - w.Z})
}

// P1, P3: whatever comes in, the calls end, and with an error nothing else is told.
func TestOddThings(t *testing.T) {
	odd := []float64{math.NaN(), math.Inf(1), math.Inf(-1), math.MaxFloat64, math.SmallestNonzeroFloat64, math.Copysign(0, -1), 0, 0.25, 1, -1, 1e9, 6.4e6, 2e7}
	whole := []int{0, 1, -1, api.Turn / 4, -api.Turn / 4, api.Turn / 2, 12345678901, math.MaxInt, math.MinInt}
	for _, a := range odd {
		for _, f := range odd {
			g := globe.Globe{A: a, F: f}
			for i, lon := range whole {
				for j, lat := range whole {
					p, q := place(lon, lat), place(whole[j], whole[i])
					l, err := path.Between(g, p, q)
					if err != nil && l != (path.Line{}) || g.Valid() != nil && err != g.Valid() || math.IsNaN(l.Far) || l.Out < 0 || l.Out >= api.Turn || l.In < 0 || l.In >= api.Turn {
						t.Error(g, p, q, l, err)
					}
					c, err := path.Reach(g, p, lon, odd[(i+j)%len(odd)])
					if err != nil && c != (api.Place{}) || g.Valid() != nil && err != g.Valid() || c != place(grain.Signed(c.Lon), c.Lat) || c.Lat > api.Turn/4 || c.Lat < -api.Turn/4 {
						t.Error(g, p, c, err)
					}
				}
			}
		}
	}
}
