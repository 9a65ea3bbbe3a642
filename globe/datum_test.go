package globe_test

import (
	"math"
	"math/rand"
	"testing"

	"mercator/api"
	"mercator/globe"
)

func datum(x, y, z, a, b, c, scale float64) globe.Datum {
	return globe.Datum{X: x, Y: y, Z: z, A: a, B: b, C: c, Scale: scale}
}

// with: a datum of nothing but one number.
func with(which int, x float64) globe.Datum {
	var n [7]float64
	n[which] = x
	return datum(n[0], n[1], n[2], n[3], n[4], n[5], n[6])
}

// mostOf a datum's numbers, in size.
func mostOf(which int) float64 {
	return []float64{1e5, 1e5, 1e5, 0.001, 0.001, 0.001, 1000}[which]
}

// P23.
func TestDatum(t *testing.T) {
	for _, c := range []struct {
		datum         globe.Datum
		vec, to, from api.Vec
	}{
		{datum(0.0, 0.0, 0.0, 0.0, 0.0, 0.0, 0.0), vec(3980912.25, -12345.678, 4966823.5), vec(0x1.e5f382p+21, -0x1.81cd6c8b43958p+13, 0x1.2f269ep+22), vec(0x1.e5f382p+21, -0x1.81cd6c8b43958p+13, 0x1.2f269ep+22)},
		{datum(0.0, 0.0, 0.0, 0.0, 0.0, 0.0, 0.0), vec(-10000000000.0, 10000000000.0, -10000000000.0), vec(-0x1.2a05f2p+33, 0x1.2a05f2p+33, -0x1.2a05f2p+33), vec(-0x1.2a05f2p+33, 0x1.2a05f2p+33, -0x1.2a05f2p+33)},
		{datum(0.0, 0.0, 0.0, 0.0, 0.0, 0.0, 0.0), vec(33333333.333333332, -14285714.285714285, 11111111.111111112), vec(0x1.fca0555555555p+24, -0x1.b3f7249249249p+23, 0x1.53158e38e38e4p+23), vec(0x1.fca0555555555p+24, -0x1.b3f7249249249p+23, 0x1.53158e38e38e4p+23)},
		{datum(598.1, 73.7, 418.2, 9.7e-07, 2.1e-07, -1.19e-05, 6.7), vec(3980912.25, -12345.678, 4966823.5), vec(0x1.e6070f588cdfbp+21, -0x1.8122039069c92p+13, 0x1.2f2da884dbd81p+22), vec(0x1.e5dff4b0c041ap+21, -0x1.8278e55f8dceap+13, 0x1.2f1f937e1ea0dp+22)},
		{datum(598.1, 73.7, 418.2, 9.7e-07, 2.1e-07, -1.19e-05, 6.7), vec(-10000000000.0, 10000000000.0, -10000000000.0), vec(-0x1.2a058f5e8ef24p+33, 0x1.2a07705f47f92p+33, -0x1.2a065cfedc47bp+33), vec(-0x1.2a0654a01d040p+33, 0x1.2a0473a119ceep+33, -0x1.2a0587013bc02p+33)},
		{datum(598.1, 73.7, 418.2, 9.7e-07, 2.1e-07, -1.19e-05, 6.7), vec(33333333.333333332, -14285714.285714285, 11111111.111111112), vec(0x1.fca2e3194ffa9p+24, -0x1.b3fa7f7e8da1fp+23, 0x1.53193dcbea6edp+23), vec(0x1.fc9dc79131527p+24, -0x1.b3f3c9abb57ebp+23, 0x1.5311dea732655p+23)},
		{datum(-446.448, 125.157, -542.06, -7.28e-07, -1.2e-06, -4.08e-06, 20.4894), vec(3980912.25, -12345.678, 4966823.5), vec(0x1.e5e7eadcd1a47p+21, -0x1.7e4b34336cf60p+13, 0x1.2f1fcff9417a3p+22), vec(0x1.e5ff1915a057cp+21, -0x1.854f9db9dd6dfp+13, 0x1.2f2d6bfd114adp+22)},
		{datum(-446.448, 125.157, -542.06, -7.28e-07, -1.2e-06, -4.08e-06, 20.4894), vec(-10000000000.0, 10000000000.0, -10000000000.0), vec(-0x1.2a071bedaede5p+33, 0x1.2a07c3e5ec01cp+33, -0x1.2a07a8e63a3e9p+33), vec(-0x1.2a04c81342178p+33, 0x1.2a04201cc04e9p+33, -0x1.2a043b1c40c08p+33)},
		{datum(-446.448, 125.157, -542.06, -7.28e-07, -1.2e-06, -4.08e-06, 20.4894), vec(33333333.333333332, -14285714.285714285, 11111111.111111112), vec(0x1.fca0fa3eac693p+24, -0x1.b3f9737f0ee4cp+23, 0x1.53137e396ae8cp+23), vec(0x1.fc9fb06ca1742p+24, -0x1.b3f4d5a90e3ebp+23, 0x1.53179e35cd5afp+23)},
		{datum(100000.0, -100000.0, 100000.0, 0.001, -0.001, 0.001, 1000.0), vec(3980912.25, -12345.678, 4966823.5), vec(0x1.f209edd6f01e6p+21, -0x1.bac0ebbc1effap+16, 0x1.35cccb6f3ef32p+22), vec(0x1.d9dfedfd0ef3ap+21, 0x1.59dec3b6efc11p+16, 0x1.28821c0e4881bp+22)},
		{datum(100000.0, -100000.0, 100000.0, 0.001, -0.001, 0.001, 1000.0), vec(-10000000000.0, 10000000000.0, -10000000000.0), vec(-0x1.2a5179effffffp+33, 0x1.2a5179effffffp+33, -0x1.2a5179effffffp+33), vec(-0x1.29ba7d610e110p+33, 0x1.29ba7d610e110p+33, -0x1.29ba7d610e110p+33)},
		{datum(100000.0, -100000.0, 100000.0, 0.001, -0.001, 0.001, 1000.0), vec(33333333.333333332, -14285714.285714285, 11111111.111111112), vec(0x1.feb59471c71c5p+24, -0x1.b6c6371c71c71p+23, 0x1.570e91c71c71cp+23), vec(0x1.fa8b788ca680ep+24, -0x1.b128bd1c826e9p+23, 0x1.4f1de7ad1db50p+23)},
		{datum(-100000.0, 100000.0, -100000.0, -0.001, 0.001, -0.001, -1000.0), vec(3980912.25, -12345.678, 4966823.5), vec(0x1.d9dcc6e385583p+21, 0x1.5a4b97cff21b4p+16, 0x1.2880905060e19p+22), vec(0x1.f20d16b6c0724p+21, -0x1.bb2df69912185p+16, 0x1.35ce57e7b3adcp+22)},
		{datum(-100000.0, 100000.0, -100000.0, -0.001, 0.001, -0.001, -1000.0), vec(-10000000000.0, 10000000000.0, -10000000000.0), vec(-0x1.29ba6a1000000p+33, 0x1.29ba6a1000000p+33, -0x1.29ba6a1000000p+33), vec(-0x1.2a518d4af4780p+33, 0x1.2a518d4af4780p+33, -0x1.2a518d4af4780p+33)},
		{datum(-100000.0, 100000.0, -100000.0, -0.001, 0.001, -0.001, -1000.0), vec(33333333.333333332, -14285714.285714285, 11111111.111111112), vec(0x1.fa8b1c9249249p+24, -0x1.b127b92492492p+23, 0x1.4f1cd6db6db6ep+23), vec(0x1.feb5f098073eep+24, -0x1.b6c73bc72d144p+23, 0x1.570fa2fd92c95p+23)},
		{datum(0.1, 0.2, 0.3, 0.0007, 0.0003, -0.0009, -333.3), vec(3980912.25, -12345.678, 4966823.5), vec(0x1.e5f83fa3c0c59p+21, -0x1.2f1a6e480a21cp+14, 0x1.2ef9f75f3deb0p+22), vec(0x1.e5ee8a4bae553p+21, -0x1.4a88ad4c96e79p+12, 0x1.2f53347d02d41p+22)},
		{datum(0.1, 0.2, 0.3, 0.0007, 0.0003, -0.0009, -333.3), vec(-10000000000.0, 10000000000.0, -10000000000.0), vec(-0x1.29bec163d999ap+33, 0x1.2a668bd1b3334p+33, -0x1.29a03f7e5999ap+33), vec(-0x1.2a4d0a94da5a1p+33, 0x1.29a52d554e3cdp+33, -0x1.2a6ba14e528cep+33)},
		{datum(0.1, 0.2, 0.3, 0.0007, 0.0003, -0.0009, -333.3), vec(33333333.333333332, -14285714.285714285, 11111111.111111112), vec(0x1.fc4fbecc4ff83p+24, -0x1.b4f8fbafeaaccp+23, 0x1.525c6d7cd070fp+23), vec(0x1.fcf0cde567a0ap+24, -0x1.b2f4f13475e73p+23, 0x1.53ce9cd953ce7p+23)},
	} {
		if v, err := c.datum.To(c.vec); err != nil || !sameVec(v, c.to) {
			t.Errorf("to: %v: %x, %v", c, v, err)
		}
		if v, err := c.datum.From(c.vec); err != nil || !sameVec(v, c.from) {
			t.Errorf("from: %v: %x, %v", c, v, err)
		}
	}
}

// P23, P3: the zeros of what is answered have no sign.
func TestDatumZeros(t *testing.T) {
	minus := math.Copysign(0, -1)
	d := datum(minus, minus, minus, minus, minus, minus, minus)
	to, err := d.To(vec(minus, minus, minus))
	from, other := d.From(vec(minus, minus, minus))
	if err != nil || other != nil || !sameVec(to, api.Vec{}) || !sameVec(from, api.Vec{}) {
		t.Error(to, from, err, other)
	}
}

// P23.
func TestDatumBounds(t *testing.T) {
	for which := range 7 {
		most := mostOf(which)
		for _, x := range []float64{0, most, -most} {
			if err := with(which, x).Valid(); err != nil {
				t.Error(which, x, err)
			}
		}
		above := math.Nextafter(most, math.Inf(1))
		for _, x := range []float64{above, -above, math.NaN(), math.Inf(1), math.Inf(-1)} {
			d := with(which, x)
			to, err := d.To(vec(math.NaN(), 1, 1))
			from, other := d.From(vec(1, 1, 1e11))
			if !bare(d.Valid(), api.ErrShape) || !bare(err, api.ErrShape) || !bare(other, api.ErrShape) || to != (api.Vec{}) || from != (api.Vec{}) {
				t.Error(d, to, from, err, other)
			}
		}
	}
}

// P23.
func TestDatumOfWrongVectors(t *testing.T) {
	d := datum(1, 2, 3, 0.0001, 0.0002, 0.0003, 4)
	above := math.Nextafter(1e10, math.Inf(1))
	for _, x := range []float64{above, -above, math.NaN(), math.Inf(1), math.Inf(-1)} {
		for _, v := range []api.Vec{vec(x, 0, 0), vec(0, x, 0), vec(0, 0, x)} {
			to, err := d.To(v)
			from, other := d.From(v)
			if !bare(err, api.ErrRange) || !bare(other, api.ErrRange) || to != (api.Vec{}) || from != (api.Vec{}) {
				t.Error(v, to, from, err, other)
			}
		}
	}
}

// P24.
func TestFromOfToIsNear(t *testing.T) {
	r := rand.New(rand.NewSource(23))
	pick := func(most float64) float64 {
		switch r.Intn(8) {
		case 0:
			return -most
		case 1:
			return most
		}
		return (2*r.Float64() - 1) * most
	}
	for range 100000 {
		var n [7]float64
		for i := range n {
			n[i] = pick(mostOf(i))
		}
		d := datum(n[0], n[1], n[2], n[3], n[4], n[5], n[6])
		v := vec(pick(1e8), pick(1e8), pick(1e8))
		w, err := d.To(v)
		if err != nil {
			t.Fatal(d, v, err)
		}
		u, err := d.From(w)
		if err != nil || math.Abs(u.X-v.X) > 1e-5 || math.Abs(u.Y-v.Y) > 1e-5 || math.Abs(u.Z-v.Z) > 1e-5 {
			t.Error(d, v, u, err)
		}
	}
}
