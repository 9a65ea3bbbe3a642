package globe_test

import (
	"math"
	"testing"

	"mercator/api"
	"mercator/globe"
)

const degree = api.Turn / 360

// Globes of the tests: those that are known, and the ends of what is valid. The numbers of these tests were worked out apart from the program, each operation rounded by itself.
const (
	wgs84 = iota
	grs80
	bessel
	airy
	ball
	one
	big
)

func globeOf(t *testing.T, which int) globe.Globe {
	t.Helper()
	switch which {
	case one:
		return globe.Globe{A: 1, F: 0.25}
	case big:
		return globe.Globe{A: 1e9, F: 0.25}
	}
	g, err := globe.Known([]string{"wgs84", "grs80", "bessel", "airy", "ball"}[which])
	if err != nil {
		t.Fatal(which, err)
	}
	return g
}

func vec(x, y, z float64) api.Vec { return api.Vec{X: x, Y: y, Z: z} }

func place(lon, lat int) api.Place { return api.Place{Lon: lon, Lat: lat} }

// bare: is it the error itself, without a place?
func bare(err, want error) bool { return err == want }

// same to the bit, a zero without a sign.
func same(x, want float64) bool { return math.Float64bits(x) == math.Float64bits(want) }

func sameVec(v, want api.Vec) bool {
	return same(v.X, want.X) && same(v.Y, want.Y) && same(v.Z, want.Z)
}

// odd numbers: those that a call might stumble over.
func odd() []float64 {
	return []float64{math.NaN(), math.Inf(1), math.Inf(-1), math.MaxFloat64, -math.MaxFloat64, math.SmallestNonzeroFloat64, math.Copysign(0, -1), 0, 1, -1, 1e10, 6.4e6}
}

// P20.
func TestKnownGlobes(t *testing.T) {
	for _, c := range []struct {
		name string
		a, f float64
	}{
		{"wgs84", 0x1.854a64p+22, 0x1.b775a84f3e129p-9},
		{"grs80", 0x1.854a64p+22, 0x1.b775a87362105p-9},
		{"bessel", 0x1.853ed49eb851fp+22, 0x1.b624dafda3516p-9},
		{"airy", 0x1.85416d9581062p+22, 0x1.b5e4587dfa571p-9},
		{"ball", 0x1.84dae0p+22, 0},
	} {
		if g, err := globe.Known(c.name); err != nil || !same(g.A, c.a) || !same(g.F, c.f) || g.Valid() != nil {
			t.Error(c, g, err)
		}
	}
	for _, name := range []string{"", "WGS84", "wgs84 ", "wgs8", "Ball", "grs80\x00", "wgs72", "\xff"} {
		if g, err := globe.Known(name); !bare(err, api.ErrName) || g != (globe.Globe{}) {
			t.Errorf("%q: %v, %v", name, g, err)
		}
	}
}

// P20.
func TestValidGlobes(t *testing.T) {
	below, above := math.Inf(-1), math.Inf(1)
	for _, g := range []globe.Globe{{A: 1}, {A: 1e9}, {A: 1, F: 0.25}, {A: 1e9, F: 0.25}, {A: 7, F: math.Copysign(0, -1)}, {A: 7, F: math.SmallestNonzeroFloat64}} {
		if err := g.Valid(); err != nil {
			t.Error(g, err)
		}
	}
	for _, g := range []globe.Globe{
		{}, {F: 0.1}, {A: -6378137}, {A: math.Nextafter(1, below)}, {A: math.Nextafter(1e9, above)}, {A: above}, {A: below}, {A: math.NaN()},
		{A: 1, F: math.Nextafter(0.25, above)}, {A: 1, F: -math.SmallestNonzeroFloat64}, {A: 1, F: math.NaN()}, {A: 1, F: above}, {A: 1, F: below},
	} {
		if err := g.Valid(); !bare(err, api.ErrShape) {
			t.Error(g, err)
		}
	}
}

// P21.
func TestBulge(t *testing.T) {
	for _, c := range []struct {
		globe int
		want  float64
	}{{wgs84, 0x1.b6b90f1fe94f1p-8}, {bessel, 0x1.b5696274f8c20p-8}, {one, 0.4375}, {ball, 0}} {
		if e := globeOf(t, c.globe).Bulge(); !same(e, c.want) {
			t.Errorf("%v: %x", c, e)
		}
	}
}

// P21.
func TestCross(t *testing.T) {
	for _, c := range []struct {
		globe, lat int
		want       float64
	}{
		{wgs84, 0, 0x1.854a64p+22},
		{wgs84, 47123456789, 0x1.85fe03a975ca9p+22},
		{wgs84, -33000000000, 0x1.85ad7cc0d1283p+22},
		{wgs84, 90000000000, 0x1.8699a680c6d5ap+22},
		{wgs84, 1000000000007, 0x1.868f7dd6f6d13p+22},
		{wgs84, -9223372036854775808, 0x1.85e6c133c759ep+22},
		{bessel, 0, 0x1.853ed49eb851fp+22},
		{bessel, 47123456789, 0x1.85f1e528fcd9ap+22},
		{bessel, -33000000000, 0x1.85a19e8183985p+22},
		{bessel, 90000000000, 0x1.868d0b646d8fep+22},
		{bessel, 1000000000007, 0x1.8682eae12c397p+22},
		{bessel, -9223372036854775808, 0x1.85dab54671b81p+22},
		{one, 0, 0x1.000000p+0},
		{one, 47123456789, 0x1.24ae66b6487a2p+0},
		{one, -33000000000, 0x1.126cf0284b9f7p+0},
		{one, 90000000000, 0x1.5555555555555p+0},
		{one, 1000000000007, 0x1.5166571b4953fp+0},
		{one, -9223372036854775808, 0x1.1f0ae9b55b6e5p+0},
		{big, 0, 0x1.dcd650p+29},
		{big, 47123456789, 0x1.1094a61da59e5p+30},
		{big, -33000000000, 0x1.ff284b5db9585p+29},
		{big, 90000000000, 0x1.3de4355555555p+30},
		{big, 1000000000007, 0x1.3a3a5f79c42ffp+30},
		{big, -9223372036854775808, 0x1.0b544baffe522p+30},
		{ball, 0, 0x1.84dae0p+22},
		{ball, -33000000000, 0x1.84dae0p+22},
	} {
		if n := globeOf(t, c.globe).Cross(c.lat); !same(n, c.want) {
			t.Errorf("%v: %x", c, n)
		}
	}
}

// P21.
func TestVec(t *testing.T) {
	for _, c := range []struct {
		globe int
		place api.Place
		high  float64
		want  api.Vec
	}{
		{wgs84, place(8540000001, 47376543210), 408.25, vec(0x1.052fafa1f0308p+22, 0x1.39c493aa3e415p+19, 0x1.1d10c8cbdfc6ap+22)},
		{bessel, place(-120000000001, -33000000007), 8848.86, vec(-0x1.4739ac2bf4309p+21, -0x1.1b62aa1be86d4p+22, -0x1.a62c25c70e549p+21)},
		{airy, place(-2000000000, 51477777777), -11000.1, vec(0x1.e4bb63e197c44p+21, -0x1.0ed5de8af1026p+17, 0x1.2e9a74013af80p+22)},
		{grs80, place(-2000000000, 51477777777), 35786000.7, vec(0x1.9095cecb1f48ep+24, -0x1.bfa3c8499519ap+19, 0x1.f6fff4a6202d9p+24)},
		{one, place(777000000000, 90000000000), -10000000.0, vec(0, 0, -0x1.312cfe8000000p+23)},
		{big, place(-9223372036854775808, -90000000000), 1000000000.0, vec(0, 0, -0x1.a13b86p+30)},
		{one, place(12345678901, 1), -1.5, vec(-0x1.f429040e6a346p-2, -0x1.b5e1a1d26e75ap-4, -0x1.1fd9fa01627eep-36)},
		{ball, place(0, 0), -1e7, vec(-3629000, 0, 0)},
		{ball, place(180000000000, 44000000000), 0.1, vec(-0x1.17b807c272ecap+22, 0, 0x1.0e1f1230cdcfcp+22)},
		{big, place(9223372036854775807, -89000000999), 0.3, vec(0x1.03094a52b2c3cp+24, -0x1.e592422500352p+23, -0x1.6587f31d3ebbcp+29)},
	} {
		if v, err := globeOf(t, c.globe).Vec(c.place, c.high); err != nil || !sameVec(v, c.want) {
			t.Errorf("%v: %x, %v", c, v, err)
		}
	}
}

// P21.
func TestVecOfWrongThings(t *testing.T) {
	g := globeOf(t, wgs84)
	for _, c := range []struct {
		globe globe.Globe
		place api.Place
		high  float64
		want  error
	}{
		{globe.Globe{}, place(0, api.Turn), math.NaN(), api.ErrShape},
		{globe.Globe{A: 1, F: 0.26}, place(0, 0), 0, api.ErrShape},
		{g, place(0, api.Turn/4+1), 0, api.ErrRange},
		{g, place(0, -api.Turn/4-1), 0, api.ErrRange},
		{g, place(0, api.Turn), 0, api.ErrRange},
		{g, place(0, math.MinInt), 0, api.ErrRange},
		{g, place(0, math.MaxInt), 0, api.ErrRange},
		{g, place(0, 0), math.NaN(), api.ErrRange},
		{g, place(0, 0), math.Inf(1), api.ErrRange},
		{g, place(0, 0), math.Inf(-1), api.ErrRange},
		{g, place(0, 0), math.Nextafter(1e9, 2e9), api.ErrRange},
		{g, place(0, 0), math.Nextafter(-1e7, -2e7), api.ErrRange},
	} {
		if v, err := c.globe.Vec(c.place, c.high); !bare(err, c.want) || v != (api.Vec{}) {
			t.Error(c, v, err)
		}
	}
}

// P1: whatever a globe is made of, its calls end, and one that is not valid says so.
func TestOddGlobes(t *testing.T) {
	for _, a := range odd() {
		for _, f := range odd() {
			g := globe.Globe{A: a, F: f}
			for _, lat := range []int{0, 1, -degree, api.Turn / 4, math.MinInt, math.MaxInt} {
				g.Cross(lat)
			}
			_, err := g.Vec(place(math.MaxInt, degree), 1)
			p, high, other := g.Place(vec(a, a, a))
			if err != g.Valid() || g.Valid() != nil && (other != g.Valid() || p != (api.Place{}) || !same(high, 0)) {
				t.Error(g, err, other, p, high)
			}
		}
	}
}
