package wave_test

import (
	"math"
	"math/cmplx"
	"testing"

	"mercator/api"
	"mercator/globe"
	"mercator/grain"
	"mercator/wave"
)

const degree = api.Turn / 360

// Globes of the tests: some that are known, the ends of what is valid, and one that is hardly flattened. The numbers of these tests were worked out apart from the program, each operation rounded by itself.
const (
	wgs84 = iota
	bessel
	ball
	one
	big
	slight
)

func globeOf(t *testing.T, which int) globe.Globe {
	t.Helper()
	switch which {
	case one:
		return globe.Globe{A: 1, F: 0.25}
	case big:
		return globe.Globe{A: 1e9, F: 0.25}
	case slight:
		return globe.Globe{A: 6378137, F: 1e-20}
	}
	g, err := globe.Known([]string{"wgs84", "bessel", "ball"}[which])
	if err != nil {
		t.Fatal(which, err)
	}
	return g
}

// notGlobes: what is beside the bounds of a globe.
func notGlobes() []globe.Globe {
	nan, inf := math.NaN(), math.Inf(1)
	return []globe.Globe{{}, {A: math.Nextafter(1, 0)}, {A: math.Nextafter(1e9, inf)}, {A: nan}, {A: inf}, {A: 1, F: math.Nextafter(0.25, 1)}, {A: 1, F: -math.SmallestNonzeroFloat64}, {A: 1, F: -3}, {A: 1, F: nan}, {A: 1, F: -inf}}
}

// same to the bit, a zero without a sign; all NaNs are one.
func same(x, want float64) bool {
	return math.Float64bits(x) == math.Float64bits(want) || math.IsNaN(x) && math.IsNaN(want)
}

// P50.
func TestSeries(t *testing.T) {
	for _, c := range []struct {
		globe  int
		radius float64
		a, b   [4]float64
	}{
		{wgs84, 0x1.84a3649552bbcp+22, [4]float64{0x1.b736762deda1fp-11, 0x1.987acf03bef86p-21, 0x1.4934483aef199p-30, 0x1.57dfe7ab06bb1p-39}, [4]float64{0x1.b73681fac493cp-11, 0x1.fb4f71fb57c20p-25, 0x1.70010c79388ecp-33, 0x1.e82192fc98cccp-43}},
		{bessel, 0x1.84985a14b83bap+22, [4]float64{0x1.b5e609d56c771p-11, 0x1.9609be7d13dc9p-21, 0x1.46419a526d2d5p-30, 0x1.53c4b29dbe10cp-39}, [4]float64{0x1.b5e61587375f7p-11, 0x1.f843ab0012ac0p-25, 0x1.6cb4a44169aa6p-33, 0x1.e24d61d0e91aap-43}},
		{ball, 0x1.84dae00000000p+22, [4]float64{0, 0, 0, 0}, [4]float64{0, 0, 0, 0}},
		{one, 0x1.c249e3a373af5p-1, [4]float64{0x1.e1ed839a4713ap-5, 0x1.022626dcd4cc9p-8, 0x1.c7b390a765174p-12, 0x1.0c68bd29d63d6p-13}, [4]float64{0x1.e2e1f5663dc2ap-5, 0x1.028c0de2742bcp-11, 0x1.64237ad57a606p-14, 0x1.7d01f49646f09p-17}},
		{big, 0x1.a35d2cdfa66fep+29, [4]float64{0x1.e1ed839a4713ap-5, 0x1.022626dcd4cc9p-8, 0x1.c7b390a765174p-12, 0x1.0c68bd29d63d6p-13}, [4]float64{0x1.e2e1f5663dc2ap-5, 0x1.028c0de2742bcp-11, 0x1.64237ad57a606p-14, 0x1.7d01f49646f09p-17}},
		{slight, 0x1.854a640000000p+22, [4]float64{0x1.79ca10c924223p-69, 0x1.2dfd400169ee9p-137, 0x1.a23b7f1c92061p-205, 0x1.751c7b2a9783dp-272}, [4]float64{0x1.79ca10c924223p-69, 0x1.73add89f474d0p-141, 0x1.d239ee3907808p-208, 0x1.08d0fa2593241p-275}},
	} {
		radius, a, b, err := wave.Series(globeOf(t, c.globe))
		if err != nil || !same(radius, c.radius) {
			t.Errorf("%v: %x, %v", c, radius, err)
		}
		for i := range a {
			if !same(a[i], c.a[i]) || !same(b[i], c.b[i]) {
				t.Errorf("%v: %x, %x", c, a, b)
			}
		}
	}
}

// P50, P3: a flattening that is a zero with a sign is a zero.
func TestSeriesOfSignedZero(t *testing.T) {
	radius, a, b, err := wave.Series(globe.Globe{A: 7, F: math.Copysign(0, -1)})
	if radius != 7 || err != nil {
		t.Error(radius, err)
	}
	for i := range a {
		if !same(a[i], 0) || !same(b[i], 0) {
			t.Error(a, b)
		}
	}
}

// P50.
func TestSeriesOfNoGlobe(t *testing.T) {
	for _, g := range notGlobes() {
		radius, a, b, err := wave.Series(g)
		if radius != 0 || a != [4]float64{} || b != [4]float64{} || err != api.ErrShape {
			t.Error(g, radius, a, b, err)
		}
	}
}

// P51.
func TestSineAndCosine(t *testing.T) {
	nan, inf := math.NaN(), math.Inf(1)
	for _, c := range []struct {
		u                        int
		v                        float64
		sin, beside, cos, across float64 // both parts of the sine, both of the cosine
	}{
		{0, 0, 0, 0, 0x1.0000000000000p+0, 0},
		{30000000000, 0, 0x1.fffffffffffffp-2, 0, 0x1.bb67ae8584cabp-1, 0},
		{90000000000, 0, 0x1.0000000000000p+0, 0, 0, 0},
		{180000000000, 0, 0, 0, -0x1.0000000000000p+0, 0},
		{0, 0.5, 0, 0x1.0acd00fe63b97p-1, 0x1.20ac1862ae8d0p+0, 0},
		{90000000000, -0.5, 0x1.20ac1862ae8d0p+0, 0, 0, 0x1.0acd00fe63b97p-1},
		{45000000000, 1, 0x1.1753d2936ff00p+0, 0x1.a977e129565cap-1, 0x1.1753d2936ff00p+0, -0x1.a977e129565cbp-1},
		{-45000000000, 1, -0x1.1753d2936ff00p+0, 0x1.a977e129565cbp-1, 0x1.1753d2936ff00p+0, 0x1.a977e129565cap-1},
		{1, 1e-12, 0x1.330aa445be653p-36, 0x1.1980000000000p-40, 0x1.0000000000000p+0, -0x1.51a033a2b0dc4p-76},
		{-1, -1e-12, -0x1.330aa445be653p-36, -0x1.197c000000000p-40, 0x1.0000000000000p+0, -0x1.519b67781fc55p-76},
		{8540000001, 0.0125, 0x1.3026c4126e739p-3, 0x1.9511af440c3e9p-7, 0x1.fa5cdb5be7ce5p-1, -0x1.e69deff258d0dp-10},
		{-171234567890, -3.75, -0x1.9eef45903a842p+1, 0x1.50027c7eb1497p+4, -0x1.5061b09ee37e6p+4, -0x1.9e79d5f8624a8p+1},
		{123456789012, 7.05, 0x1.e0ea9c534bf08p+8, -0x1.3dca335f5c5ecp+8, -0x1.3dca52b662461p+8, -0x1.e0ea6ce5f22eep+8},
		{math.MaxInt, 0.25, -0x1.69213d987f81bp-1, 0x1.79786829552b1p-3, 0x1.814d3e506304fp-1, 0x1.61ca2d6a15d21p-3},
		{math.MinInt, -0.25, 0x1.69213d98629fbp-1, -0x1.797868296fb05p-3, 0x1.814d3e507e172p-1, 0x1.61ca2d69f9865p-3},
		{7, 709.5, 0x1.94ffe4aa0903bp+989, 0x1.81e9b4b52d0c9p+1022, 0x1.81e9b4b52d0c9p+1022, -0x1.94ffe4aa0903bp+989},
		{60000000000, -700, 0x1.99ddcb97ecd5fp+1008, -0x1.d945df4f8ec8dp+1007, 0x1.d945df4f8ec8dp+1007, 0x1.99ddcb97ecd5fp+1008},
		{60000000000, 710.5, inf, inf, inf, -inf},
		{60000000000, -710.5, inf, -inf, inf, inf},
		{250000000000, -745, -inf, inf, -inf, -inf},
		{60000000000, -746.5, inf, -inf, inf, inf},
		{-120000000000, inf, -inf, -inf, -inf, inf},
		{150000000000, -inf, inf, inf, -inf, inf},
		{0, inf, nan, inf, inf, nan},
		{90000000000, -inf, inf, nan, nan, inf},
		{30000000000, nan, nan, nan, nan, nan},
		{0, nan, nan, nan, nan, nan},
		{-141168695127, -3.500289, -0x1.4ca0f60738221p+3, 0x1.9c7ddbd2c54c9p+3, -0x1.9d3e822fbbbd1p+3, -0x1.4c05e4a93cc74p+3},
		{-26111946629, 3.412424, -0x1.abc17b6d57582p+2, 0x1.b366d4acabf54p+3, 0x1.b4594a2e6e0f7p+3, 0x1.aad3cc40a1bb2p+2},
		{-154927608295, -1.980624, -0x1.90968dfc10c07p+0, 0x1.9c1f0d3f2018ep+1, -0x1.ac1e711dfe9b4p+1, -0x1.819e864769c7cp+0},
		{158242040107, 0.405812, 0x1.9b450e1a7346ap-2, -0x1.8ca0a61a94b99p-2, -0x1.019c25bddbf4fp+0, -0x1.3c9abc358956fp-3},
		{191421836745, -0.942603, -0x1.2bbdc252cab70p-2, 0x1.11248306a7b92p+0, -0x1.72e8791adb780p+0, -0x1.b977ec06511dfp-3},
		{-314340423286, 1.325186, 0x1.70cdd63905c7cp+0, 0x1.38dc0d10b197ap+0, 0x1.6868bcfa296a7p+0, -0x1.40259d49c34c4p+0},
	} {
		if z := wave.Sine(c.u, c.v); !same(real(z), c.sin) || !same(imag(z), c.beside) {
			t.Errorf("%v: sine %x", c, z)
		}
		if z := wave.Cosine(c.u, c.v); !same(real(z), c.cos) || !same(imag(z), c.across) {
			t.Errorf("%v: cosine %x", c, z)
		}
	}
}

// P51: they are what is known by these names.
func TestSineAndCosineAreComplexOnes(t *testing.T) {
	for u := -api.Turn; u <= api.Turn; u += 7*degree + 1 {
		for v := -3.0; v <= 3; v += 0.3 {
			z := complex(float64(grain.Signed(u))*api.Rad, v)
			if cmplx.Abs(wave.Sine(u, v)-cmplx.Sin(z)) > 1e-14 || cmplx.Abs(wave.Cosine(u, v)-cmplx.Cos(z)) > 1e-14 {
				t.Error(u, v, wave.Sine(u, v), wave.Cosine(u, v))
			}
		}
	}
}
