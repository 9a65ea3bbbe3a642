package flat_test

import (
	"math"
	"testing"

	"mercator/api"
	"mercator/flat"
	"mercator/globe"
)

const degree = api.Turn / 360

// Globes of the tests: some that are known, the ends of what is valid, and one that is hardly flattened. The numbers of these tests were worked out apart from the program, each operation rounded by itself.
const (
	wgs84 = iota
	bessel
	ball
	one
	big
	slight
)

func globeOf(t *testing.T, which int) globe.Globe {
	t.Helper()
	switch which {
	case one:
		return globe.Globe{A: 1, F: 0.25}
	case big:
		return globe.Globe{A: 1e9, F: 0.25}
	case slight:
		return globe.Globe{A: 6378137, F: 1e-20}
	}
	g, err := globe.Known([]string{"wgs84", "bessel", "ball"}[which])
	if err != nil {
		t.Fatal(which, err)
	}
	return g
}

// same to the bit, a zero without a sign.
func same(x, want float64) bool { return math.Float64bits(x) == math.Float64bits(want) }

// P41.
func TestIso(t *testing.T) {
	for _, c := range []struct {
		globe, lat int
		want       float64
	}{
		{wgs84, 0, 0},
		{wgs84, 1, 0x1.30fcd21eca457p-36},
		{wgs84, -1, -0x1.30fc921ef8475p-36},
		{wgs84, 60000000000, 0x1.4fa791dc7e013p+0},
		{wgs84, -60000000000, -0x1.4fa791dc7e013p+0},
		{wgs84, 89000000000, 0x1.2f045933fe2cep+2},
		{wgs84, -89000000000, -0x1.2f045933fe2cfp+2},
		{wgs84, 90000000000, math.Inf(1)},
		{wgs84, -90000000000, math.Inf(-1)},
		{wgs84, 89999999999, math.Inf(1)},
		{wgs84, 120000000000, 0x1.4fa791dc7e013p+0},
		{wgs84, math.MaxInt, -0x1.a9d8370ca88fbp-1},
		{wgs84, math.MinInt, 0x1.a9d8370c74256p-1},
		{ball, 30000000000, 0x1.193ea7aad030bp-1},
		{ball, -90000000000, math.Inf(-1)},
		{ball, 45000000000, 0x1.c34366179d427p-1},
		{one, 45000000000, 0x1.17852396b8980p-1},
		{one, -12345678901, -0x1.f7c12a8403790p-4},
		{one, 90000000000, math.Inf(1)},
		{one, 89000000000, 0x1.0dc8d345f053ep+2},
		{big, 77777777777, 0x1.b9be3f329e03fp+0},
		{slight, 47376543210, 0x1.e1f25841db953p-1},
		{slight, -3, -0x1.cc9000006792cp-35},
		{one, 59262359057, 0x1.bab2fbab2048bp-1},
		{slight, -55232809825, -0x1.294d892682ca9p+0},
		{bessel, -27240221995, -0x1.f72992ad9e671p-2},
		{ball, -28745486102, -0x1.0c61520a6d7c2p-1},
		{wgs84, -86557498467, -0x1.bfc448e9b4a98p+1},
		{wgs84, -3145781676, -0x1.befe0512b2aadp-5},
		{slight, 16802283021, 0x1.30b13c9bd6261p-2},
		{big, 6889954706, 0x1.1651acc7c67e6p-4},
		{wgs84, 79718038992, 0x1.336aaf7a5d95cp+1},
		{bessel, 48920032011, 0x1.f40ac62d83465p-1},
		{wgs84, -60702097820, -0x1.55fc5fa127c7ep+0},
		{ball, 1017889915, 0x1.2315f48f03d3cp-6},
	} {
		if iso := flat.Iso(globeOf(t, c.globe), c.lat); !same(iso, c.want) {
			t.Errorf("%v: %x", c, iso)
		}
	}
}

// P41.
func TestLat(t *testing.T) {
	minus := math.Copysign(0, -1)
	for _, c := range []struct {
		globe int
		iso   float64
		want  int
	}{
		{wgs84, 0, 0},
		{wgs84, minus, 0},
		{wgs84, 1, 49794654574},
		{wgs84, -1, -49794654575},
		{wgs84, 1e-12, 0},
		{wgs84, -1e-12, -1},
		{wgs84, 1e-11, 0},
		{wgs84, -1e-11, -1},
		{wgs84, 100, 89000000000},
		{wgs84, -100, -89000000000},
		{wgs84, math.Inf(1), 89000000000},
		{wgs84, math.Inf(-1), -89000000000},
		{wgs84, math.NaN(), -89000000000},
		{wgs84, 4.735, 89000000000},
		{wgs84, 4.734, 88999359417},
		{wgs84, -4.735, -89000000000},
		{ball, 0.881373587019543, 45000000000},
		{ball, -3, -84299529126},
		{one, 1.5, 74566923260},
		{one, -0.25, -24064049088},
		{one, 4.5, 89000000000},
		{big, -4.4, -89000000000},
		{slight, 2, 74585373192},
		{wgs84, 4.076684738344818, 88069287273},
		{ball, -4.277969369516747, -88410625332},
		{one, -3.7185209960417085, -88356185056},
		{one, 3.83538303489493, 88537561430},
		{bessel, -3.4036079468072122, -86216202880},
		{slight, -2.3187253002497763, -78760494411},
		{wgs84, -4.200307680679897, -88293770151},
		{slight, -0.5854415317570556, -31776636641},
		{wgs84, 2.1951643360028843, 77375917140},
		{slight, 2.18082335717225, 77111677608},
		{slight, 2.865782113549158, 83482356528},
		{ball, 3.0404315406984015, 84525060139},
	} {
		if lat := flat.Lat(globeOf(t, c.globe), c.iso); lat != c.want {
			t.Error(c, lat)
		}
	}
}

// P41: the latitude that is found is the greatest one that is not beyond.
func TestLatOfIso(t *testing.T) {
	for which := range slight + 1 {
		g := globeOf(t, which)
		for lat := -89 * degree; lat <= 89*degree; lat += degree / 3 {
			iso := flat.Iso(g, lat)
			got := flat.Lat(g, iso)
			if got < lat-50 || got > lat+50 || flat.Iso(g, got) > iso {
				t.Error(which, lat, got)
			}
			if next := flat.Iso(g, got+1); got < 89*degree && next <= iso {
				t.Error(which, lat, got, next, iso)
			}
		}
	}
}

// P1: of what is no globe nothing is said, but calls end.
func TestLatOfNoGlobe(t *testing.T) {
	for _, g := range notGlobes() {
		for _, lat := range []int{0, degree, api.Turn / 4, math.MaxInt, math.MinInt} {
			got := flat.Lat(g, flat.Iso(g, lat))
			if got < -89*degree || got > 89*degree {
				t.Error(g, lat, got)
			}
		}
	}
}
