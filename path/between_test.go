package path_test

import (
	"math"
	"testing"

	"mercator/api"
	"mercator/globe"
	"mercator/path"
)

// P31.
func TestBetween(t *testing.T) {
	for _, c := range []struct {
		globe   int
		a, b    api.Place
		far     float64
		out, in int
	}{
		{wgs84, place(8540000001, 47376543210), place(-74006000007, 40712812345), 0x1.82ff79f2103a7p+22, 296198425536, 233314062046},
		{wgs84, place(-74006000007, 40712812345), place(8540000001, 47376543210), 0x1.82ff79f2103a7p+22, 53314062046, 116198425536},
		{bessel, place(-120000000001, -33000000007), place(151200000003, -33868000009), 0x1.e5e509dc470e8p+22, 241104138355, 297839494575},
		{bessel, place(13000000000, 52000000000), place(13000000001, 51999999999), 0x1.d24eb17d7e25cp-14, 148348477147, 148348477148},
		{wgs84, place(5000000000, 5000000000), place(5000000000, 5000000000), 0, 0, 0},
		{wgs84, place(5000000000, 5000000000), place(365000000000, 5000000000), 0, 0, 0},
		{wgs84, place(0, 0), place(1000000000, 0), 0x1.b2d77da5edfdbp+16, 90000000000, 90000000000},
		{wgs84, place(0, 0), place(-1000000000, 0), 0x1.b2d77da5edfdbp+16, 270000000000, 270000000000},
		{one, place(0, 0), place(100000000000, 0), 0x1.becde5da0c8e6p+0, 90000000000, 90000000000},
		{wgs84, place(0, -50000000000), place(0, 50000000000), 0x1.522fbc2ab3c24p+23, 0, 0},
		{wgs84, place(0, 50000000000), place(0, -50000000000), 0x1.522fbc2ab3c24p+23, 180000000000, 180000000000},
		{wgs84, place(0, 0), place(180000000000, 0), 0x1.313c5b75685afp+24, 0, 0},
		{wgs84, place(90000000000, 70000000000), place(-90000000000, 60000000000), 0x1.54a137a533dd2p+22, 0, 180000000000},
		{wgs84, place(-90000000000, -70000000000), place(90000000000, -60000000000), 0x1.54a137a533dd2p+22, 180000000000, 0},
		{big, place(0, 20000000000), place(180000000000, -20000000000), 0x1.4903aead4c5edp+31, 0, 0},
		{wgs84, place(0, 90000000000), place(77000000000, -90000000000), 0x1.313c5b75685afp+24, 0, 0},
		{wgs84, place(33000000000, 90000000000), place(-12000000000, 45000000000), 0x1.3236f567b2fbfp+22, 224999999999, 180000000000},
		{wgs84, place(33000000000, -90000000000), place(-12000000000, 45000000000), 0x1.c95d3c36f737ep+23, 315000000001, 0},
		{wgs84, place(33000000000, 12000000000), place(-112000000000, 90000000000), 0x1.08bc8284f97bdp+23, 0, 215000000000},
		{wgs84, place(1, 90000000000), place(2, 90000000000), 0, 0, 0},
		{ball, place(0, 0), place(90000000000, 0), 0x1.3167eecbc8011p+23, 90000000000, 90000000000},
		{ball, place(10000000001, -20000000000), place(170000000003, 44000000000), 0x1.ffab0cd8f4465p+23, 30267645173, 138818934506},
		{round, place(0, 89999999999), place(180000000000, 89999999999), 0x1.b739fb1a5ceadp-13, 0, 180000000000},
		{ball, place(0, 10000000000), place(179999999999, -10000000000), 0x1.3167eecbc8011p+24, 90000000000, 90000000000},
		{one, place(0, 62862238661), place(149968489848, -44391738010), 0x1.2eead9060b3c6p+1, 38134247770, 154389530576},
		{one, place(58412879047, -7363271511), place(-122803784772, -48994367552), 0x1.0f791dc8dfaf0p+1, 179182265534, 1074921993},
		{one, place(0, -86643268663), place(167300165203, 78421249439), 0x1.491f0220e98a8p+1, 163473116896, 4827848953},
		{one, place(-135916480227, 44837789845), place(40396086890, 44422956953), 0x1.c1263eb5d3163p+0, 2418831105, 177593547409},
		{big, place(149562425014, 50318378813), place(88080334566, -14810625795), 0x1.2239051ac1e9cp+30, 252783055454, 226251836008},
		{one, place(0, -37158834342), place(140018938526, 42526538535), 0x1.354ca657668d2p+1, 57164584819, 117550482306},
		{wgs84, place(0, -60692019079), place(179707969403, 60557010634), 0x1.30f2230f36f05p+24, 151311020092, 28558297720},
		{wgs84, place(0, 68027797744), place(179807797292, -67761641602), 0x1.30c52ddb347d7p+24, 11751287522, 168384091930},
		{wide, place(12000000000, 80000000000), place(-167999999999, -70000000000), 0x1.2495d134218aep+24, 359999999999, 180000000001},
		{wide, place(math.MinInt, -1), place(math.MaxInt, 2), 0x1.2abf39af7ba84p+23, 270000000003, 270000000002},
		{wgs84, place(math.MaxInt, 77000000000), place(math.MinInt, -3000000000), 0x1.384874d8f5cbcp+23, 94220065366, 166975699902},
		{wgs84, place(179000000000, 1), place(-179000000000, -1), 0x1.b2d77da5edfdbp+17, 90000000057, 90000000057},
		{wgs84, place(0, 1), place(30000000000, -1), 0x1.97aa05ca6c471p+21, 90000000004, 90000000004},
		{wgs84, place(0, 2), place(100000000000, 2), 0x1.53b85a289c2cep+23, 89999999997, 90000000003},
	} {
		if l, err := path.Between(globeOf(t, c.globe), c.a, c.b); err != nil || !same(l.Far, c.far) || l.Out != c.out || l.In != c.in {
			t.Errorf("%v: %x, %v", c, l, err)
		}
	}
}

// P31: nearly opposite places: longitudes grow beyond half a turn, or do not settle in time.
func TestBetweenTellsNone(t *testing.T) {
	for _, c := range []struct {
		globe globe.Globe
		a, b  api.Place
	}{
		{globe.Globe{A: 6378137.0, F: 0x1.b775a84f3e129p-9}, place(0, 0), place(179900000000, 100000000)},
		{globe.Globe{A: 6378137.0, F: 0x1.b775a84f3e129p-9}, place(0, 0), place(179500000000, 0)},
		{globe.Globe{A: 6378137.0, F: 0x1.b775a84f3e129p-9}, place(0, 0), place(-179500000000, 0)},
		{globe.Globe{A: 6378137.0, F: 0x1.2c4572f7776ecp-5}, place(0, 0), place(173402242262, 0)},
		{globe.Globe{A: 6378137.0, F: 0x1.0000000000000p-2}, place(0, -40622663044), place(154423137403, 60326250427)},
		{globe.Globe{A: 6378137.0, F: 0x1.29a0fbdf6c786p-3}, place(0, -50981222042), place(158792817080, 44882177150)},
		{globe.Globe{A: 6378137.0, F: 0x1.0000000000000p-2}, place(0, 57693632889), place(148140364544, -43781925352)},
		{globe.Globe{A: 6378137.0, F: 0x1.b775a84f3e129p-9}, place(0, 37031772275), place(179422355032, -37252724992)},
		{globe.Globe{A: 1.0, F: 0x1.0000000000000p-2}, place(0, 43978148456), place(149226972904, -55884247728)},
		{globe.Globe{A: 6378137.0, F: 0x1.b775a84f3e129p-9}, place(0, -45092846323), place(179455184494, 44832688553)},
		{globe.Globe{A: 6378137.0, F: 0x1.138083df85052p-4}, place(0, -44955676585), place(168882910128, 40025592609)},
	} {
		if l, err := path.Between(c.globe, c.a, c.b); !bare(err, api.ErrNone) || l != (path.Line{}) {
			t.Error(c, l, err)
		}
	}
}

// P31.
func TestBetweenOfWrongThings(t *testing.T) {
	fine := place(0, 0)
	g := globeOf(t, wgs84)
	for _, lat := range notOnGlobe() {
		wrong := place(0, lat)
		for _, c := range [][2]api.Place{{wrong, fine}, {fine, wrong}, {wrong, wrong}} {
			if l, err := path.Between(g, c[0], c[1]); !bare(err, api.ErrRange) || l != (path.Line{}) {
				t.Error(c, l, err)
			}
			for _, not := range notGlobes() {
				if l, err := path.Between(not, c[0], c[1]); !bare(err, api.ErrShape) || l != (path.Line{}) {
					t.Error(not, c, l, err)
				}
			}
		}
	}
	for _, not := range notGlobes() {
		if l, err := path.Between(not, fine, place(degree, degree)); !bare(err, api.ErrShape) || l != (path.Line{}) {
			t.Error(not, l, err)
		}
	}
	for _, lat := range []int{api.Turn / 4, -api.Turn / 4} {
		if _, err := path.Between(g, place(7, lat), place(math.MinInt, -lat)); err != nil {
			t.Error(lat, err)
		}
	}
}
