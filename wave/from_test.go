package wave_test

import (
	"math"
	"testing"

	"mercator/api"
	"mercator/wave"
)

// P53.
func TestFrom(t *testing.T) {
	for _, c := range []struct {
		strip wave.Strip
		f     api.Flat
		want  api.Place
	}{
		{strip(t, wgs84, 9000000000, 0.9996), point(215124.375, 5542932.75), place(12001946412, 49999848240)},
		{strip(t, wgs84, 9000000000, 0.9996), point(-215124.375, 5542932.75), place(5998053588, 49999848240)},
		{strip(t, wgs84, 9000000000, 0.9996), point(215124.375, -5542932.75), place(12001946412, -49999848241)},
		{strip(t, wgs84, 9000000000, 0.9996), point(-215124.375, -5542932.75), place(5998053588, -49999848241)},
		{strip(t, wgs84, 9000000000, 0.9996), point(-35000, 5249000), place(8536211982, 47393517007)},
		{strip(t, wgs84, 0, 1), point(0, 0), place(0, 0)},
		{strip(t, wgs84, -100000000000, 1), point(0, 0), place(-100000000000, 0)},
		{strip(t, wgs84, 0, 1), point(0.001, 0.001), place(8, 9)},
		{strip(t, wgs84, 0, 1), point(-0.001, -0.001), place(-8, -10)},
		{strip(t, wgs84, 0, 1), point(0, 4984944.5), place(0, 45000001097)},
		{strip(t, wgs84, 0, 1), point(0, -4984944.5), place(0, -45000001098)},
		{strip(t, wgs84, 178000000000, 1), point(500000, 3000000), place(-176965342727, 27021410492)},
		{strip(t, wgs84, -178000000000, 1), point(-500000, 3000000), place(176965342727, 27021410492)},
		{strip(t, wgs84, 0, 1), point(6367449, 0), place(49491928938, 0)},
		{strip(t, wgs84, 0, 1), point(-6367449, 0), place(-49491928938, 0)},
		{strip(t, wgs84, 0, 1), point(6367449, 10187918), place(91426564992, 40451477071)},
		{strip(t, wgs84, 0, 1), point(-6367449, -10187918), place(-91426564992, -40451477072)},
		{strip(t, wgs84, 0, 1), point(0, 10187918), place(180000000000, 88335158256)},
		{strip(t, wgs84, 0, 1), point(0, -10187918), place(180000000000, -88335158257)},
		{strip(t, wgs84, 0, 1), point(1000, 10187918), place(179691838716, 88335134190)},
		{strip(t, wgs84, 0, 1), point(-1000, 10001965.5), place(-89986860494, 89000000000)},
		{strip(t, ball, 10000000000, 2), point(6670891, 3185500), place(39481953339, 12531847006)},
		{strip(t, ball, 0, 1), point(-3185500, 10000000), place(-89869814072, 62476114536)},
		{strip(t, ball, 0, 0.1), point(637100, -1019360), place(91423301180, -40374277223)},
		{strip(t, ball, 0, 10), point(63710000, 640000), place(49606364269, 372994255)},
		{strip(t, ball, 77000000000, 1), point(0, 10007543.398010286), place(77000000000, 89000000000)},
		{strip(t, ball, 77000000000, 1), point(0, -10007543.398010286), place(77000000000, -89000000000)},
		{strip(t, ball, 77000000000, 1), point(0.001, 10007543.398010286), place(167000000000, 89000000000)},
		{strip(t, one, math.MaxInt, 10), point(-0.5, -12.25), place(-60909008487, -82900500832)},
		{strip(t, one, math.MinInt, 0.1), point(0.08, 0.13), place(127732369926, 52819296012)},
		{strip(t, one, 33333333333, 1.25), point(-0.001, 0.7), place(33273045681, 48726669868)},
		{strip(t, one, 0, 1), point(0.87, 1.39), place(90507444189, 49488761056)},
		{strip(t, one, 0, 1), point(-0.87, -0.3), place(-43965628163, -12444203189)},
		{strip(t, big, -1800000000007, 0.1), point(87000000, -139000000), place(90507444182, -49488761057)},
		{strip(t, big, 100000000000, 10), point(-8000000000, 10000000000), place(34116617648, 47677934853)},
		{strip(t, big, 0, 1), point(87654321, -123456789), place(5079138198, -12364173883)},
		{strip(t, slight, 0, 1), point(-5000000, 5000000), place(-50749920523, 32245726345)},
		{strip(t, slight, 0, 3), point(1, -2), place(2994, -5989)},
		{strip(t, bessel, 13000000000, 0.7), point(-3654321, -1234567), place(-30484268357, -11681429301)},
		{strip(t, slight, 131112651514, 5.851), point(-845126.887, 24209323.333), place(129484627869, 37157903444)},
		{strip(t, wgs84, -250227715210, 5.992), point(-18742407.108, -2430507.137), place(82696623104, -3264341004)},
		{strip(t, slight, 93844133927, 9.511), point(-9381882.57, -42344832.214), place(82386588299, -39427906274)},
		{strip(t, bessel, 206051173692, 0.378), point(602835.264, -231518.18), place(-139705433187, -5369037407)},
		{strip(t, big, 316353673448, 9.476), point(-4920075884.233, -1990934863.217), place(-72180462091, -16370677990)},
		{strip(t, ball, -61764015838, 1.023), point(-1895240.123, 1024658.047), place(-78389065276, 8637043834)},
		{strip(t, ball, -299542694077, 8.396), point(-38901453.759, -60372078.377), place(-1194566010, -45085333476)},
		{strip(t, wgs84, 231651646670, 7.287), point(14380490.738, 47474885.887), place(-97197022930, 54653993881)},
		{strip(t, ball, 42448665136, 0.583), point(1080841.362, 1626160.482), place(60497039981, 23992727719)},
		{strip(t, wgs84, 234517097929, 7.375), point(20611107.44, 804335.471), place(-101146231505, 898076521)},
		{strip(t, wgs84, 31001626363, 4.344), point(17586981.195, 28275913.366), place(83467124260, 45013021814)},
		{strip(t, big, -112115652450, 2.678), point(-1715417314.847, 538526057.559), place(-145811789842, 13485066022)},
	} {
		if p, err := c.strip.From(c.f); err != nil || p != c.want {
			t.Error(c, p, err)
		}
	}
}

// P53.
func TestFromOfZeros(t *testing.T) {
	minus := math.Copysign(0, -1)
	for which := range slight + 1 {
		for _, mid := range []int{0, 77 * degree, 180 * degree, -100 * degree} {
			for _, f := range []api.Flat{point(0, 0), point(minus, minus), point(0, minus), point(minus, 0)} {
				if p, err := strip(t, which, mid, 1).From(f); err != nil || p != place(mid, 0) {
					t.Error(which, mid, f, p, err)
				}
			}
		}
	}
}

// P53: the middle counts once around.
func TestFromAround(t *testing.T) {
	s := strip(t, wgs84, 170*degree, 1)
	f := point(1234567, 6543210)
	want, err := s.From(f)
	if err != nil || want.Lon >= 0 {
		t.Error(want, err)
	}
	for _, turns := range []int{-5, -1, 1, 7} {
		around := s
		around.Mid += turns * api.Turn
		if p, err := around.From(f); err != nil || p != want {
			t.Error(turns, p, want, err)
		}
	}
}

// P53: beside the strip lies nothing.
func TestFromBesideStrip(t *testing.T) {
	for which := range slight + 1 {
		for _, scale := range []float64{0.1, 0.9996, 10} {
			s := strip(t, which, 0, scale)
			radius, _, _, err := wave.Series(s.Globe)
			if err != nil {
				t.Fatal(which, err)
			}
			side, up := radius*scale, 1.6*(radius*scale)
			for _, sign := range []float64{1, -1} {
				for _, f := range []api.Flat{point(sign*side, 0), point(0, sign*up), point(sign*side, -sign*up)} {
					if _, err := s.From(f); err != nil {
						t.Error(s, f, err)
					}
				}
				for _, x := range []float64{math.Nextafter(side, 2*side), up, 1e300, math.Inf(1), math.NaN()} {
					wrongFrom(t, s, point(sign*x, 0), api.ErrRange)
					wrongFrom(t, s, point(sign*x, up), api.ErrRange)
				}
				for _, y := range []float64{math.Nextafter(up, 2*up), 2 * up, 1e300, math.Inf(1), math.NaN()} {
					wrongFrom(t, s, point(0, sign*y), api.ErrRange)
					wrongFrom(t, s, point(y, sign*y), api.ErrRange)
				}
			}
		}
	}
}
