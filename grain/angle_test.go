package grain_test

import (
	"math"
	"math/big"
	"testing"

	"mercator/api"
	"mercator/grain"
)

const turn = api.Turn

func TestNormAndSigned(t *testing.T) {
	for _, c := range []struct{ a, norm, signed int }{
		{0, 0, 0}, {1, 1, 1}, {-1, turn - 1, -1}, {turn, 0, 0}, {-turn, 0, 0}, {turn - 1, turn - 1, -1},
		{turn / 2, turn / 2, turn / 2}, {-turn / 2, turn / 2, turn / 2}, {turn/2 + 1, turn/2 + 1, 1 - turn/2}, {turn/2 - 1, turn/2 - 1, turn/2 - 1},
		{5*turn + 7, 7, 7}, {-5*turn - 7, turn - 7, -7},
		{math.MaxInt, math.MaxInt % turn, math.MaxInt%turn - turn}, {math.MinInt, math.MinInt%turn + turn, math.MinInt%turn + turn},
	} {
		if n, s := grain.Norm(c.a), grain.Signed(c.a); n != c.norm || s != c.signed {
			t.Error(c, n, s)
		}
	}
}

func TestSinCosBits(t *testing.T) {
	for _, c := range []struct {
		a        int
		sin, cos uint64
	}{
		{0, 0, 0x3ff0000000000000}, {1, 0x3db330aa445be653, 0x3ff0000000000000}, {-1, 0xbdb330aa445be653, 0x3ff0000000000000}, {30000000000, 0x3fdfffffffffffff, 0x3febb67ae8584cab},
		{turn/8 - 1, 0x3fe6a09e667d8994, 0x3fe6a09e6680ee06}, {turn / 8, 0x3fe6a09e667f3bcd, 0x3fe6a09e667f3bcc}, {turn/8 + 1, 0x3fe6a09e6680ee06, 0x3fe6a09e667d8994},
		{turn / 4, 0x3ff0000000000000, 0}, {turn/4 + 12345, 0x3fefffffffffff2f, 0xbe8ceb2e15d39cf0}, {turn / 2, 0, 0xbff0000000000000}, {3 * turn / 4, 0xbff0000000000000, 0},
		{3 * turn / 8, 0x3fe6a09e667f3bcc, 0xbfe6a09e667f3bcd}, {3*turn/8 - 1, 0x3fe6a09e6680ee06, 0xbfe6a09e667d8994}, {5 * turn / 8, 0xbfe6a09e667f3bcd, 0xbfe6a09e667f3bcc}, {7 * turn / 8, 0xbfe6a09e667f3bcc, 0x3fe6a09e667f3bcd}, {7*turn/8 - 1, 0xbfe6a09e6680ee06, 0x3fe6a09e667d8994},
		{123456789012, 0x3feab299c67b4cc4, 0xbfe1a45088fdd9ea}, {math.MaxInt, 0xbfe5e21927f0289b, 0x3fe75911c6718357}, {math.MinInt, 0x3fe5e21927ee688e, 0x3fe75911c6732748},
	} {
		sin, cos := math.Float64bits(grain.Sin(c.a)), math.Float64bits(grain.Cos(c.a))
		if sin != c.sin || cos != c.cos {
			t.Errorf("%d: %x, %x, want %x, %x", c.a, sin, cos, c.sin, c.cos)
		}
	}
}

// sidesTold: sine and cosine as the chapter writes them down.
func sidesTold(a int) (sin, cos num) {
	a = (a%turn + turn) % turn
	q := (a + turn/8) / (turn / 4)
	x := of(float64(a - q*(turn/4))).mul(of(api.Rad))
	z := x.mul(x)
	s, c := series(z, 1), series(z, 0)
	s = x.mul(s)
	switch q % 4 {
	case 1:
		return c, s.neg()
	case 2:
		return s.neg(), c.neg()
	case 3:
		return c.neg(), s
	}
	return s, c
}

func series(z num, odd int64) num {
	part := func(k int64) num {
		f := oneOver(factorial(2*k + odd))
		if k%2 == 1 {
			return f.neg()
		}
		return f
	}
	p := part(8)
	for k := int64(7); k >= 1; k-- {
		p = part(k).add(z.mul(p))
	}
	return of(1).add(z.mul(p))
}

func TestSinCosTold(t *testing.T) {
	for i := range 3000 {
		a := i*7919123457 - 3*turn
		sin, cos := sidesTold(a)
		if s, c := grain.Sin(a), grain.Cos(a); s != sin.float() || c != cos.float() {
			t.Fatal(a, s, c)
		}
	}
}

func TestAngleTold(t *testing.T) {
	negative := math.Copysign(0, -1)
	for _, c := range []struct {
		y, x float64
		want int
	}{
		{1, 1, 44999999999}, {1, 2, 26565051177}, {-1, 2, 333434948823}, {1, -2, 153434948823}, {-1, -2, 206565051177}, {3.3, -7.7, 156801409487},
		{1, 0, turn / 4}, {-1, 0, 3 * turn / 4}, {0, 1, 0}, {0, -1, turn / 2}, {negative, -1, turn / 2}, {negative, 1, 0}, {1, negative, turn / 4},
		{1e308, 1e308, 44999999999}, {math.MaxFloat64, 1e300, 89999999681}, {tiny, 1, 0}, {1, tiny, 89999999999}, {tiny, tiny, 59999999999},
		{1e-11, 1, 0}, {-1e-12, 1, 0}, {-1e-12, -1, turn / 2},
	} {
		if got, ok := grain.Angle(c.y, c.x); got != c.want || !ok {
			t.Error(c, got, ok)
		}
	}
	for a := 0; a < turn; a += turn / 359 {
		got, ok := grain.Angle(1e5*grain.Sin(a), 1e5*grain.Cos(a))
		if d := grain.Signed(got - a); !ok || d < -1 || d > 1 || got < 0 || got >= turn {
			t.Error(a, got, ok)
		}
	}
}

func TestAngleFalse(t *testing.T) {
	nan, inf, negative := math.NaN(), math.Inf(1), math.Copysign(0, -1)
	for _, c := range [][2]float64{{0, 0}, {negative, 0}, {0, negative}, {negative, negative}, {nan, 1}, {1, nan}, {nan, nan}, {inf, 1}, {1, inf}, {-inf, 1}, {1, -inf}, {inf, inf}, {nan, inf}} {
		if got, ok := grain.Angle(c[0], c[1]); got != 0 || ok {
			t.Error(c, got, ok)
		}
	}
}

func TestNearest(t *testing.T) {
	half := api.Rad / 2 // exact, so that its whole multiples lie in the middle
	for _, c := range []struct {
		r    float64
		want int
	}{
		{0, 0}, {api.Rad, 1}, {-api.Rad, -1}, {half, 0}, {3 * half, 2}, {-half, 0}, {-3 * half, -2}, {5 * half, 2}, {math.Pi, turn / 2}, {-math.Pi / 2, -turn / 4}, {1, 57295779513},
		{math.NaN(), 0}, {math.Inf(1), 0}, {math.Inf(-1), 0}, {1e300, 0}, {9.1e18 * api.Rad, 0}, {-9.1e18 * api.Rad, 0},
	} {
		if got := grain.Nearest(c.r); got != c.want {
			t.Error(c, got)
		}
	}
	for _, a := range []float64{8.9e18, -8.9e18} {
		if got := grain.Nearest(a * api.Rad); math.Abs(float64(got)-a) > 4096 {
			t.Error(a, got)
		}
	}
}

func TestLength(t *testing.T) {
	for _, c := range []struct {
		v    api.Vec
		want float64
	}{
		{api.Vec{X: 2, Y: 3, Z: 6}, 7}, {api.Vec{X: -2, Y: -3, Z: -6}, 7}, {api.Vec{}, 0}, {api.Vec{Z: -4}, 4},
		{api.Vec{X: 1e200}, math.Inf(1)}, {api.Vec{X: 1e-200}, 0}, {api.Vec{X: math.Inf(-1)}, math.Inf(1)},
	} {
		if got := grain.Length(c.v); got != c.want {
			t.Error(c, got)
		}
	}
	if got := grain.Length(api.Vec{X: math.NaN()}); !math.IsNaN(got) {
		t.Error(got)
	}
	for i := range 1000 {
		v := api.Vec{X: 1 + float64(i)/7, Y: float64(i*i%101) / 3, Z: -float64(i%17) / 11}
		x, y, z := of(v.X), of(v.Y), of(v.Z)
		want := fresh().Sqrt(x.mul(x).add(y.mul(y)).add(z.mul(z)).f)
		if got := big.NewFloat(grain.Length(v)); got.Cmp(want) != 0 {
			t.Fatal(v, got, want)
		}
	}
}
