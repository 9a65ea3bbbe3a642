package globe_test

import (
	"math"
	"math/rand"
	"testing"

	"mercator/api"
	"mercator/globe"
	"mercator/grain"
)

// P22.
func TestPlace(t *testing.T) {
	for _, c := range []struct {
		globe int
		vec   api.Vec
		want  api.Place
		high  float64
	}{
		{wgs84, vec(4275000.5, 611000.25, 4678000.125), place(8133857370, 47480457458), -0x1.3fc57cee00000p+5},
		{bessel, vec(-2700000.0, -4600000.0, -3450000.0), place(-120411081268, -33070999265), -0x1.2493b70a9e100p+14},
		{wgs84, vec(-6378137.0, 0.0, 0.0), place(180000000000, 0), 0},
		{airy, vec(-6378137.0, -1e-09, 1.5), place(180000000000, 13565), 0x1.1ecd4fe0b8000p+9},
		{wgs84, vec(0.0, 0.0, -6400000.0), place(0, -90000000000), 0x1.51df5f1b41800p+15},
		{one, vec(0.3, 0.2, 0.4), place(33690067525, 68527046133), -0x1.22b4faaf8511cp-2},
		{one, vec(1e-09, -1e-09, 0.5), place(-44999999999, 89999999925), -0x1.000000p-2},
		{big, vec(300000000.0, -300000000.0, 300000000.0), place(-44999999999, 61149769606), -0x1.4b7fb9b612d59p+28},
		{big, vec(200000000.0, -100000000.0, -460000000.0), place(-26565051177, -77633922199), -0x1.fb70c21f27f3cp+27},
		{big, vec(-5000000000.0, -5000000000.0, 7000000000.0), place(-135000000001, 46142797482), 0x1.0e3e1064b2fafp+33},
		{ball, vec(1000000.0, -6200000.0, 1000000.0), place(-80837652954, 9047391512), -0x1.6f561820d9600p+13},
		{one, vec(0.5, 0.0, 0.0), place(0, 0), -0x1.000000p-1},
		{one, vec(0.0, 0.0, -10000000000.0), place(0, -90000000000), 0x1.2a05f1ffa0000p+33},
		{grs80, vec(0.0, 5000000.0, 4000000.0), place(90000000000, 38846696613), 0x1.049be7a073b00p+15},
		{bessel, vec(-5184295.300738113, 164912.0762925499, 5156769.124193151), place(178178039567, 45000000000), 0x1.ce92007473568p+19},
		{wgs84, vec(-2875817.1430129884, 4206558.491624952, -5065388.853367353), place(124358495754, -45000000000), 0x1.8f28145bddaa8p+19},
		{wgs84, vec(4160874.168694129, -3050961.984643503, 5129335.311318375), place(-36250741672, 45000000001), 0x1.bb5052b1a94f0p+19},
		{bessel, vec(-3120599.5431000507, -4157684.317458893, -5168359.081743828), place(-126890497469, -45000000001), 0x1.d692d60e46bb0p+19},
	} {
		if p, high, err := globeOf(t, c.globe).Place(c.vec); err != nil || p != c.want || !same(high, c.high) {
			t.Errorf("%v: %v, %x, %v", c, p, high, err)
		}
	}
}

// P22: how long a vector may be.
func TestPlaceOfLengths(t *testing.T) {
	g := globeOf(t, wgs84)
	least, most := g.A/2, 1e10
	for _, v := range []api.Vec{vec(least, 0, 0), vec(0, -least, 0), vec(0, 0, least), vec(most, 0, 0), vec(0, 0, -most)} {
		if _, _, err := g.Place(v); err != nil {
			t.Error(v, err)
		}
	}
	short, long := math.Nextafter(least, 0), math.Nextafter(most, math.Inf(1))
	for _, v := range []api.Vec{vec(short, 0, 0), vec(0, short, 0), vec(0, 0, -short), vec(long, 0, 0), vec(0, -long, 0), vec(0, 0, long), vec(8e9, 8e9, 0), {}} {
		if p, high, err := g.Place(v); !bare(err, api.ErrRange) || p != (api.Place{}) || !same(high, 0) {
			t.Error(v, p, high, err)
		}
	}
}

// P22: coordinates that are no numbers, or endless.
func TestPlaceOfWrongVectors(t *testing.T) {
	g := globeOf(t, wgs84)
	for _, x := range []float64{math.NaN(), math.Inf(1), math.Inf(-1), math.MaxFloat64} {
		for _, other := range []float64{0, 6.4e6, math.Inf(1), math.NaN()} {
			for _, v := range []api.Vec{vec(x, other, other), vec(other, x, other), vec(other, other, x)} {
				if p, high, err := g.Place(v); !bare(err, api.ErrRange) || p != (api.Place{}) || !same(high, 0) {
					t.Error(v, p, high, err)
				}
				if _, _, err := (globe.Globe{A: 1, F: -1}).Place(v); !bare(err, api.ErrShape) {
					t.Error(v, err)
				}
			}
		}
	}
}

// P22: on the axis there is no longitude; across from the first meridian it is half a turn, from both sides.
func TestPlaceOnEdges(t *testing.T) {
	g := globeOf(t, grs80)
	minus := math.Copysign(0, -1)
	for _, c := range []struct {
		vec  api.Vec
		want api.Place
	}{
		{vec(0, 0, 7e6), place(0, api.Turn/4)},
		{vec(minus, minus, -7e6), place(0, -api.Turn/4)},
		{vec(-7e6, 0, 0), place(api.Turn/2, 0)},
		{vec(-7e6, minus, minus), place(api.Turn/2, 0)},
		{vec(-7e6, -1e-9, 0), place(api.Turn/2, 0)},
		{vec(0, -7e6, 0), place(-api.Turn/4, 0)},
		{vec(7e6, -1e-9, 0), place(0, 0)},
	} {
		if p, _, err := g.Place(c.vec); err != nil || p != c.want {
			t.Error(c, p, err)
		}
	}
}

// P24: there and back, over all globes, heights and places that the promise speaks of, their ends among them.
func TestPlaceOfVecIsNear(t *testing.T) {
	r := rand.New(rand.NewSource(24))
	pick := func(low, high float64) float64 {
		switch r.Intn(8) {
		case 0:
			return low
		case 1:
			return high
		}
		return low + (high-low)*r.Float64()
	}
	for range 20000 {
		g := globe.Globe{A: pick(1e6, 1e7), F: pick(0, 0.01)}
		p := place(r.Intn(api.Turn)-api.Turn/2, int(pick(-api.Turn/4, api.Turn/4)))
		high := pick(-1e4, 1e6)
		v, err := g.Vec(p, high)
		if err != nil {
			t.Fatal(g, p, high, err)
		}
		q, up, err := g.Place(v)
		if err != nil || apart(q.Lat, p.Lat) > 5 || math.Abs(up-high) > 0.01 {
			t.Error(g, p, high, q, up, err)
		}
		if apart(p.Lat, 0) <= 89*degree && float64(apart(q.Lon, p.Lon))*grain.Cos(p.Lat) > 5 {
			t.Error(g, p, high, q, err)
		}
	}
}

// apart: how far two angles are from each other.
func apart(a, b int) int {
	d := grain.Signed(a - b)
	return max(d, -d)
}
