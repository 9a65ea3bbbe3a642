package path_test

import (
	"math"
	"testing"

	"mercator/api"
	"mercator/globe"
	"mercator/path"
)

const degree = api.Turn / 360

// Globes of the tests: some that are known, the ends of what is valid, and the ends of what P33 speaks of. The numbers of these tests were worked out apart from the program, each operation rounded by itself.
const (
	wgs84 = iota
	bessel
	ball
	one
	big
	wide
	round
)

func globeOf(t *testing.T, which int) globe.Globe {
	t.Helper()
	switch which {
	case one:
		return globe.Globe{A: 1, F: 0.25}
	case big:
		return globe.Globe{A: 1e9, F: 0.25}
	case wide:
		return globe.Globe{A: 6.5e6, F: 0.01}
	case round:
		return globe.Globe{A: 6e6}
	}
	g, err := globe.Known([]string{"wgs84", "bessel", "ball"}[which])
	if err != nil {
		t.Fatal(which, err)
	}
	return g
}

func place(lon, lat int) api.Place { return api.Place{Lon: lon, Lat: lat} }

// bare: is it the error itself, without a place?
func bare(err, want error) bool { return err == want }

// same to the bit, a zero without a sign.
func same(x, want float64) bool { return math.Float64bits(x) == math.Float64bits(want) }

// notOnGlobe: latitudes that no place has.
func notOnGlobe() []int {
	return []int{api.Turn/4 + 1, -api.Turn/4 - 1, api.Turn / 2, -api.Turn, math.MaxInt, math.MinInt}
}

// notGlobes: what is beside the bounds of a globe.
func notGlobes() []globe.Globe {
	nan, inf := math.NaN(), math.Inf(1)
	return []globe.Globe{{}, {A: math.Nextafter(1, 0)}, {A: math.Nextafter(1e9, inf)}, {A: nan}, {A: inf}, {A: -6378137}, {A: 1, F: math.Nextafter(0.25, 1)}, {A: 1, F: -math.SmallestNonzeroFloat64}, {A: 1, F: nan}, {A: 1, F: inf}, {A: nan, F: nan}}
}

// P30.
func TestGreat(t *testing.T) {
	for _, c := range []struct {
		a, b api.Place
		want int
	}{
		{place(0, 0), place(90000000000, 0), 90000000000},
		{place(0, 80000000000), place(180000000000, 80000000000), 20000000000},
		{place(5000000000, 90000000000), place(7000000000, -90000000000), 180000000000},
		{place(3000000000, 4000000000), place(3000000000, 4000000000), 0},
		{place(0, 0), place(180000000000, 0), 180000000000},
		{place(8540000001, 47376543210), place(-74006000007, 40712812345), 56869949234},
		{place(-120000000001, -33000000007), place(151200000003, -33868000009), 71451887888},
		{place(0, 0), place(1, 0), 1},
		{place(12345678901, 45000000000), place(12345678901, 45000000001), 0},
		{place(0, 89999999999), place(180000000000, 89999999998), 3},
		{place(77000000000, -51234567890), place(-102999999983, 51234567891), 179999999990},
		{place(30000000000, 100000000000), place(-150000000000, 80000000000), 0},
		{place(math.MinInt, math.MaxInt), place(math.MaxInt, math.MinInt), 115671344632},
		{place(math.MaxInt, 12000000000), place(5, -7000000000), 46919830973},
		{place(179999999999, 0), place(-179999999999, 1), 2},
		{place(0, 60000000001), place(90000000001, -60000000002), 138590377894},
	} {
		there, back := path.Great(c.a, c.b), path.Great(c.b, c.a)
		if there != c.want || back != c.want {
			t.Error(c, there, back)
		}
	}
}

// P30: what is seen from the middle does not hang on where longitudes begin, nor on how many turns they have.
func TestGreatTurned(t *testing.T) {
	for lat := -90; lat <= 90; lat += 15 {
		for lon := 0; lon < 360; lon += 24 {
			a, b := place(0, lat*degree), place(lon*degree, (lat*7%90)*degree)
			want := path.Great(a, b)
			for _, by := range []int{31 * degree, -170 * degree} {
				if got := path.Great(place(a.Lon+by, a.Lat), place(b.Lon+by, b.Lat)); got-want > 3 || want-got > 3 {
					t.Error(a, b, by, got, want)
				}
			}
			if got := path.Great(place(a.Lon-5*api.Turn, a.Lat), place(b.Lon+api.Turn, b.Lat)); got != want {
				t.Error(a, b, got, want)
			}
		}
	}
}
