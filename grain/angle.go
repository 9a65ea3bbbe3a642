package grain

import (
	"math"

	"mercator/api"
)

// Norm: from 0 on, below a turn.
func Norm(a int) int {
	a %= api.Turn
	if a < 0 {
		a += api.Turn
	}
	return a
}

// Signed: above minus half a turn, up to half a turn.
func Signed(a int) int {
	a = Norm(a)
	if a > api.Turn/2 {
		a -= api.Turn
	}
	return a
}

// Sin of an angle.
func Sin(a int) float64 {
	sin, _ := sides(a)
	return Unsigned(sin)
}

// Cos of an angle.
func Cos(a int) float64 {
	_, cos := sides(a)
	return Unsigned(cos)
}

// Nearest: the angle nearest to a number of radians; 0, if there is none.
func Nearest(r float64) int {
	a := math.RoundToEven(r / api.Rad)
	if a >= -9e18 && a <= 9e18 {
		return int(a)
	}
	return 0
}

// Angle of a point.
func Angle(y, x float64) (int, bool) {
	if !finite(y) || !finite(x) || y == 0 && x == 0 {
		return 0, false
	}
	r := firstQuarter(math.Abs(y), math.Abs(x))
	switch {
	case x < 0 && y < 0:
		return api.Turn/2 + r, true
	case x < 0:
		return api.Turn/2 - r, true
	case y < 0:
		return Norm(api.Turn - r), true
	}
	return r, true
}

// Length of a vector.
func Length(v api.Vec) float64 {
	return math.Sqrt((float64(v.X*v.X) + float64(v.Y*v.Y)) + float64(v.Z*v.Z))
}

// firstQuarter: the angle of a point whose coordinates are not below 0.
func firstQuarter(y, x float64) int {
	lo, hi := 0, api.Turn/4+1
	for hi-lo > 1 {
		m := (lo + hi) / 2
		sin, cos := sides(m)
		if sin*x <= cos*y {
			lo = m
		} else {
			hi = m
		}
	}
	return lo
}

// sides of the triangle of an angle: its sine and its cosine.
func sides(a int) (sin, cos float64) {
	odd := [9]float64{1, -1.0 / 6, 1.0 / 120, -1.0 / 5040, 1.0 / 362880, -1.0 / 39916800, 1.0 / 6227020800, -1.0 / 1307674368000, 1.0 / 355687428096000}
	even := [9]float64{1, -1.0 / 2, 1.0 / 24, -1.0 / 720, 1.0 / 40320, -1.0 / 3628800, 1.0 / 479001600, -1.0 / 87178291200, 1.0 / 20922789888000}
	a = Norm(a)
	q := (a + api.Turn/8) / (api.Turn / 4)
	x := float64(float64(a-q*(api.Turn/4)) * api.Rad)
	z := float64(x * x)
	s, c := float64(x*Polynomial(z, odd[:]...)), Polynomial(z, even[:]...)
	switch q % 4 {
	case 1:
		return c, -s
	case 2:
		return -s, -c
	case 3:
		return -c, s
	}
	return s, c
}
