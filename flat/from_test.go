package flat_test

import (
	"math"
	"testing"

	"mercator/api"
	"mercator/flat"
)

// P43.
func TestFrom(t *testing.T) {
	minus := math.Copysign(0, -1)
	for _, c := range []struct {
		paper flat.Paper
		f     api.Flat
		want  api.Place
	}{
		{paper(t, wgs84, "mercator", 0, 1), point(1234567.875, -7654321.25), place(11090311914, -56655580909)},
		{paper(t, wgs84, "mercator", 0, 1), point(-1234567.875, 6054321.25), place(-11090311914, 47874661140)},
		{paper(t, wgs84, "mercator", 9000000000, 0.9996), point(-35000, 5249000), place(8685463836, 42790485118)},
		{paper(t, wgs84, "mercator", 0, 1), point(0, 0), place(0, 0)},
		{paper(t, wgs84, "mercator", 77000000000, 1), point(0, 0), place(77000000000, 0)},
		{paper(t, wgs84, "mercator", -100000000000, 1), point(minus, minus), place(-100000000000, 0)},
		{paper(t, wgs84, "mercator", 0, 1), point(20037508.342789244, 0.001), place(180000000000, 9)},
		{paper(t, wgs84, "mercator", 0, 1), point(-20037508.342789244, -0.001), place(180000000000, -10)},
		{paper(t, wgs84, "mercator", 0, 1), point(20037508.36, 100000000), place(-179999999845, 89000000000)},
		{paper(t, wgs84, "mercator", 175000000000, 1), point(20410038.4, -100000000), place(-1653505558, -89000000000)},
		{paper(t, wgs84, "mercator", -175000000000, 1), point(-20410038.4, 6000000), place(1653505558, 47545309636)},
		{paper(t, ball, "mercator", 10000000000, 2), point(6670891, 3185500), place(39996382035, 14177026982)},
		{paper(t, ball, "mercator", 0, 0.1), point(-1000000, -60000000), place(-89932160592, -89000000000)},
		{paper(t, ball, "mercator", 0, 10), point(100000000, 640000), place(89932160592, 575556147)},
		{paper(t, one, "mercator", math.MaxInt, 10), point(-32, -0.05), place(133508281365, -509283244)},
		{paper(t, one, "mercator", math.MinInt, 0.1), point(0.32, 5.5), place(-133508281366, 89000000000)},
		{paper(t, one, "mercator", 33333333333, 1.25), point(-0.001, 0.7), place(33287496709, 45782825824)},
		{paper(t, one, "mercator", 0, 1), point(3, -100000000), place(171887338539, -89000000000)},
		{paper(t, big, "mercator", -1800000000007, 0.1), point(100000000, -100000000), place(57295779506, -63618733735)},
		{paper(t, big, "mercator", 100000000000, 10), point(-100000000, 100000000), place(99427042205, 1018491054)},
		{paper(t, big, "mercator", 100000000000, 0.1), point(100000000, 99999999), place(157295779513, 63618733440)},
		{paper(t, slight, "mercator", 0, 1), point(-5000000, 5000000), place(-44915764206, 40916274470)},
		{paper(t, slight, "mercator", 0, 3), point(1, -2), place(2994, -5989)},
		{paper(t, bessel, "mercator", 13000000000, 0.7), point(-7654321, -1234567), place(-85239874732, -15746863804)},
		{paper(t, ball, "mercator", -341580107162, 1.967), point(-36650112.716, -1796095.149), place(-149146137792, -8183860547)},
		{paper(t, bessel, "mercator", -170698155903, 0.524), point(1307737.98, 8192929.925), place(-148276451711, 80216817403)},
		{paper(t, bessel, "mercator", -87808002537, 1.844), point(6293244.264, 3012951.915), place(-57146541836, 14614864396)},
		{paper(t, ball, "mercator", -180483778452, 0.895), point(5726820.908, -4397949.845), place(-122939043527, -40366981105)},
		{paper(t, bessel, "mercator", 157490114332, 0.927), point(-8050089.124, -2628765.186), place(79471160388, -24822710863)},
		{paper(t, slight, "mercator", 169904139989, 1.244), point(-2109368.812, 2913577.19), place(154671999767, 20581983822)},
		{paper(t, wgs84, "equal", 0, 1), point(1234567.875, -7654321.25), place(11090311914, -89000000000)},
		{paper(t, wgs84, "equal", 0, 1), point(-1234567.875, 6054321.25), place(-11090311914, 72130686225)},
		{paper(t, wgs84, "equal", 9000000000, 0.9996), point(-35000, 5249000), place(8685463836, 55655480968)},
		{paper(t, wgs84, "equal", 0, 1), point(0, 0), place(0, 0)},
		{paper(t, wgs84, "equal", 77000000000, 1), point(0, 0), place(77000000000, 0)},
		{paper(t, wgs84, "equal", -100000000000, 1), point(minus, minus), place(-100000000000, 0)},
		{paper(t, wgs84, "equal", 0, 1), point(20037508.342789244, 0.001), place(180000000000, 9)},
		{paper(t, wgs84, "equal", 0, 1), point(-20037508.342789244, -0.001), place(180000000000, -10)},
		{paper(t, wgs84, "equal", 0, 1), point(20037508.36, 100000000), place(-179999999845, 89000000000)},
		{paper(t, wgs84, "equal", 175000000000, 1), point(20410038.4, -100000000), place(-1653505558, -89000000000)},
		{paper(t, wgs84, "equal", -175000000000, 1), point(-20410038.4, 6000000), place(1653505558, 70611179022)},
		{paper(t, ball, "equal", 10000000000, 2), point(6670891, 3185500), place(39996382035, 89000000000)},
		{paper(t, ball, "equal", 0, 0.1), point(-1000000, -60000000), place(-89932160592, -70350515600)},
		{paper(t, ball, "equal", 0, 10), point(100000000, 640000), place(89932160592, 89000000000)},
		{paper(t, one, "equal", math.MaxInt, 10), point(-32, -0.05), place(133508281365, -47614589287)},
		{paper(t, one, "equal", math.MinInt, 0.1), point(0.32, 5.5), place(-133508281366, 51993550582)},
		{paper(t, one, "equal", 33333333333, 1.25), point(-0.001, 0.7), place(33287496709, 89000000000)},
		{paper(t, one, "equal", 0, 1), point(3, -100000000), place(171887338539, -89000000000)},
		{paper(t, big, "equal", -1800000000007, 0.1), point(100000000, -100000000), place(57295779506, -1018551403)},
		{paper(t, big, "equal", 100000000000, 10), point(-100000000, 100000000), place(99427042205, 89000000000)},
		{paper(t, big, "equal", 100000000000, 0.1), point(100000000, 99999999), place(157295779513, 1018551392)},
		{paper(t, slight, "equal", 0, 1), point(-5000000, 5000000), place(-44915764206, 51621604673)},
		{paper(t, slight, "equal", 0, 3), point(1, -2), place(2994, -44980)},
		{paper(t, bessel, "equal", 13000000000, 0.7), point(-7654321, -1234567), place(-85239874732, -7840078265)},
		{paper(t, ball, "equal", 164952435401, 1.376), point(21629100.405, 2396913.928), place(-53684793445, 31176908907)},
		{paper(t, ball, "equal", 104822963192, 0.562), point(-1587318.481, -9971475.846), place(79422432846, -61594864338)},
		{paper(t, ball, "equal", 119756065325, 1.308), point(-21067379.22, -2473522.504), place(-25093700062, -30519212294)},
		{paper(t, ball, "equal", 343401625242, 0.529), point(-6116662.033, 3989203.214), place(-120584127544, 19343659799)},
		{paper(t, ball, "equal", -351636623841, 1.165), point(3393852.12, -4659454.125), place(34562213402, -58432826962)},
		{paper(t, bessel, "equal", 261731361349, 1.479), point(-9434227.164, 1357078.311), place(-155576912037, 18463296722)},
		{paper(t, wgs84, "polar", 0, 1), point(1234567.875, -7654321.25), place(9162346545, 27404011842)},
		{paper(t, wgs84, "polar", 0, 1), point(-1234567.875, 6054321.25), place(-168474536555, 38346776391)},
		{paper(t, wgs84, "polar", 9000000000, 0.9996), point(-35000, 5249000), place(-170617961029, 45307207632)},
		{paper(t, wgs84, "polar", 0, 1), point(0, 0), place(0, 89000000000)},
		{paper(t, wgs84, "polar", 77000000000, 1), point(0, 0), place(77000000000, 89000000000)},
		{paper(t, wgs84, "polar", -100000000000, 1), point(minus, minus), place(-100000000000, 89000000000)},
		{paper(t, wgs84, "polar", 0, 1), point(20037508.342789244, 0.001), place(90000000003, -25359154923)},
		{paper(t, wgs84, "polar", 0, 1), point(-20037508.342789244, -0.001), place(-89999999997, -25359154923)},
		{paper(t, wgs84, "polar", 0, 1), point(20037508.36, 100000000), place(168669404876, -75879768025)},
		{paper(t, wgs84, "polar", 175000000000, 1), point(20410038.4, -100000000), place(-173464347935, -75889885482)},
		{paper(t, wgs84, "polar", -175000000000, 1), point(-20410038.4, 6000000), place(78618088349, -28433953223)},
		{paper(t, ball, "polar", 10000000000, 2), point(6670891, 3185500), place(125525521313, 57647046967)},
		{paper(t, ball, "polar", 0, 0.1), point(-1000000, -60000000), place(-954841253, -87567160768)},
		{paper(t, ball, "polar", 0, 10), point(100000000, 640000), place(90366687983, 13748778078)},
		{paper(t, one, "polar", math.MaxInt, 10), point(-32, -0.05), place(-133055699610, -53101861568)},
		{paper(t, one, "polar", math.MinInt, 0.1), point(0.32, 5.5), place(-140184594536, -88062574490)},
		{paper(t, one, "polar", 33333333333, 1.25), point(-0.001, 0.7), place(-146584815610, 64611256059)},
		{paper(t, one, "polar", 0, 1), point(3, -100000000), place(1718, -89000000000)},
		{paper(t, big, "polar", -1800000000007, 0.1), point(100000000, -100000000), place(44999999992, 10893768280)},
		{paper(t, big, "polar", 100000000000, 10), point(-100000000, 100000000), place(-35000000001, 89000000000)},
		{paper(t, big, "polar", 100000000000, 0.1), point(100000000, 99999999), place(-125000000286, 10893768772)},
		{paper(t, slight, "polar", 0, 1), point(-5000000, 5000000), place(-135000000001, 31998971504)},
		{paper(t, slight, "polar", 0, 3), point(1, -2), place(26565051177, 89000000000)},
		{paper(t, bessel, "polar", 13000000000, 0.7), point(-7654321, -1234567), place(-67837659543, 7921565090)},
		{paper(t, ball, "polar", -306410607124, 0.754), point(13379138.814, -6795639.387), place(116662101951, -24742096672)},
		{paper(t, slight, "polar", -74640353338, 0.681), point(-11932211.738, -4742925.318), place(-142963066766, -21839824711)},
		{paper(t, wgs84, "polar", -303939850826, 1.037), point(-19976565.771, 3099774.531), place(-42760125635, -23920023848)},
		{paper(t, ball, "polar", -237609581932, 1.749), point(31063259.19, -1153315.757), place(-149735881253, -18723688413)},
		{paper(t, bessel, "polar", 227138932428, 1.798), point(-915523.002, -3040258.359), place(-149619864523, 74283042387)},
		{paper(t, slight, "polar", 253018605770, 0.524), point(2906538.309, -8861962.981), place(-88822986884, -18741393742)},
	} {
		if p, err := c.paper.From(c.f); err != nil || p != c.want {
			t.Error(c, p, err)
		}
	}
}

// P43.
func TestFromOfWrongPoints(t *testing.T) {
	above := math.Nextafter(1e8, 2e8)
	for _, kind := range kinds() {
		p := paper(t, big, kind, 0, 1)
		for _, x := range []float64{above, -above, 1e300, math.NaN(), math.Inf(1), math.Inf(-1)} {
			wrongFrom(t, p, point(x, 0), api.ErrRange)
			wrongFrom(t, p, point(0, x), api.ErrRange)
			wrongFrom(t, p, point(x, x), api.ErrRange)
		}
		for _, x := range []float64{1e8, -1e8} {
			if _, err := p.From(point(x, -x)); err != nil {
				t.Error(kind, x, err)
			}
		}
	}
}

// P43: beside the paper lies nothing, but of a polar one.
func TestFromBesidePaper(t *testing.T) {
	for _, kind := range kinds() {
		for _, scale := range []float64{0.5, 2} {
			p := paper(t, one, kind, 0, scale)
			edge := 3.2 * scale
			for _, x := range []float64{edge, -edge} {
				if _, err := p.From(point(x, 0.5)); err != nil {
					t.Error(p, x, err)
				}
				beside := point(math.Nextafter(x, 2*x), 0.5)
				if kind != "polar" {
					wrongFrom(t, p, beside, api.ErrRange)
				} else if _, err := p.From(beside); err != nil {
					t.Error(p, beside, err)
				}
			}
		}
	}
}

// wrongFrom: From tells an error, and nothing else.
func wrongFrom(t *testing.T, p flat.Paper, f api.Flat, want error) {
	t.Helper()
	if at, err := p.From(f); err != want || at != (api.Place{}) {
		t.Error(p, f, at, err)
	}
}
