package path_test

import (
	"math"
	"testing"

	"mercator/api"
	"mercator/path"
)

// P32.
func TestReach(t *testing.T) {
	for _, c := range []struct {
		globe int
		a     api.Place
		out   int
		far   float64
		want  api.Place
	}{
		{wgs84, place(10000000000, 0), 90000000000, 111319.490793, place(11000000000, 0)},
		{wgs84, place(179500000000, 60000000000), 90000000000, 100000.0, place(-178708323462, 59987845905)},
		{wgs84, place(8540000001, 47376543210), 123456789012, 1234567.875, place(20715704229, 40550055703)},
		{wgs84, place(8540000001, 47376543210), 0, 0, place(8540000001, 47376543210)},
		{wgs84, place(8540000001, 47376543210), 123456789012, 0, place(8540000001, 47376543210)},
		{bessel, place(-120000000001, -33000000007), 250000000001, 20000000.0, place(60282040503, 33058842739)},
		{bessel, place(-120000000001, -33000000007), -109999999999, 20000000.0, place(60282040503, 33058842739)},
		{wgs84, place(0, 0), 0, 10000000.0, place(0, 89982400758)},
		{wgs84, place(0, 0), 180000000000, 5000000.0, place(0, -45135473786)},
		{wgs84, place(0, 0), 270000000000, 15000000.0, place(-134747292617, 0)},
		{wgs84, place(77000000000, -51234567890), 333333333333, 9876543.21, place(44683318505, 33218259785)},
		{wgs84, place(1, 89000000000), 0, 1000000.0, place(-179999999999, 82046450520)},
		{wgs84, place(33000000000, 90000000000), 180000000000, 3000000.0, place(33000000000, 63121844971)},
		{wgs84, place(33000000000, 90000000000), 33000000000, 3000000.0, place(180000000000, 63121844971)},
		{wgs84, place(33000000000, -90000000000), 0, 3000000.0, place(33000000000, -63121844971)},
		{wgs84, place(33000000000, -90000000000), 77000000000, 15000000.0, place(109999999999, 45117785906)},
		{wgs84, place(33000000000, -90000000000), 0, 0, place(33000000000, -90000000000)},
		{wgs84, place(400000000000, 90000000000), 0, 0, place(40000000000, 90000000000)},
		{ball, place(0, 0), 90000000000, 20000000.0, place(179864321184, 0)},
		{ball, place(-170000000000, -20000000000), 290000000000, 19000000.0, place(19312001575, 22872337058)},
		{round, place(0, 60000000000), 45000000000, 1e-09, place(0, 60000000000)},
		{one, place(12345678901, 34567890123), 77777777777, 20000000.0, place(33524449397, -6429004024)},
		{one, place(12345678901, -34567890123), math.MaxInt, 1.75, place(-79116190234, 60105821390)},
		{one, place(0, 0), math.MinInt, 3.5, place(-164007811078, -49874848311)},
		{one, place(math.MinInt, 12000000000), 90000000000, 19999999.999, place(-176176101376, -11255698309)},
		{one, place(0, 80000000000), 359999999999, 2.5, place(180000000000, -67716474703)},
		{big, place(math.MaxInt, -45000000000), 200000000000, 20000000.0, place(-43643504549, -46308013805)},
		{big, place(0, -1), 91000000000, 12345.678, place(707247, -21947)},
		{wide, place(-5000000000, 79000000000), 300000000000, 18000000.0, place(-144060567467, -62597617907)},
		{wide, place(-5000000000, -79000000000), 60000000000, 18000000.0, place(86512035930, 72569489785)},
		{wide, place(180000000000, 0), 90000000000, 1.0, place(-179999991185, 0)},
		{wide, place(100000000000, 45000000000), 90000000000, 12000000.0, place(-158782582142, -11721024309)},
		{one, place(0, -60000000000), 100000000000, 1.1, place(76586155006, -25736790573)},
		{one, place(7000000000, 33000000000), 140000000000, 4.2, place(-123015841792, 60537814372)},
		{wgs84, place(-179999999999, -7000000000), 271000000000, 100000.0, place(179095152851, -6983349566)},
		{wgs84, place(24497202286, -54492928004), 2906162014, 6766510.233697604, place(27047763088, 6525063685)},
		{wgs84, place(154570642205, 541409495), 91822190019, 14069607.845874941, place(-79038241341, -1788112171)},
		{wgs84, place(-92285658089, -24852097915), 60350020118, 2648511.4553971644, place(-71312494104, -11667115253)},
		{one, place(-67080249965, -26974636276), 215649836049, 5623688.301691377, place(-6119235077, 32815643094)},
		{one, place(-176192942136, 25446028795), 75126329864, 469663.17843396997, place(-2183664657, -22794804721)},
		{wgs84, place(-116216593373, 77349159666), 64441150821, 15287262.883588715, place(9944863276, -41132609020)},
	} {
		if p, err := path.Reach(globeOf(t, c.globe), c.a, c.out, c.far); err != nil || p != c.want {
			t.Error(c, p, err)
		}
	}
}

// P32: who does not go stays, wherever he looks.
func TestReachOfNoWay(t *testing.T) {
	for which := range round + 1 {
		for _, lat := range []int{0, 1, -33 * degree, 89 * degree, api.Turn / 4, -api.Turn / 4} {
			for _, out := range []int{0, 77 * degree, -degree, math.MaxInt, math.MinInt} {
				p, err := path.Reach(globeOf(t, which), place(12*degree, lat), out, math.Copysign(0, -1))
				q, other := path.Reach(globeOf(t, which), place(12*degree, lat), out, 0)
				if err != nil || other != nil || p != q || p.Lat-lat > 1 || lat-p.Lat > 1 {
					t.Error(which, lat, out, p, q, err, other)
				}
			}
		}
	}
}

// P32.
func TestReachOfWrongThings(t *testing.T) {
	g := globeOf(t, wgs84)
	fine := place(0, 0)
	for _, far := range []float64{math.Nextafter(2e7, 3e7), -math.SmallestNonzeroFloat64, -1, 2.1e7, math.NaN(), math.Inf(1), math.Inf(-1), math.MaxFloat64} {
		if p, err := path.Reach(g, fine, degree, far); !bare(err, api.ErrRange) || p != (api.Place{}) {
			t.Error(far, p, err)
		}
		for _, not := range notGlobes() {
			if p, err := path.Reach(not, place(0, api.Turn), degree, far); !bare(err, api.ErrShape) || p != (api.Place{}) {
				t.Error(not, far, p, err)
			}
		}
	}
	for _, lat := range notOnGlobe() {
		if p, err := path.Reach(g, place(0, lat), degree, 1); !bare(err, api.ErrRange) || p != (api.Place{}) {
			t.Error(lat, p, err)
		}
	}
	for _, not := range notGlobes() {
		if p, err := path.Reach(not, fine, degree, 1); !bare(err, api.ErrShape) || p != (api.Place{}) {
			t.Error(not, p, err)
		}
	}
}
