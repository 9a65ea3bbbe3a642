package grain

import "math"

// The natural logarithm of 2 in two parts: times a whole power, the great one is exact.
const (
	lnGreat = 0.6931471803691238
	lnSmall = 1.9082149292705877e-10
)

// Ln of a number.
func Ln(x float64) float64 {
	switch {
	case math.IsNaN(x) || x < 0:
		return math.NaN()
	case x == 0:
		return math.Inf(-1)
	case math.IsInf(x, 1):
		return x
	}
	m, power := math.Frexp(x)
	if m < 0.7071067811865476 {
		m, power = 2*m, power-1
	}
	odd := [12]float64{1, 1.0 / 3, 1.0 / 5, 1.0 / 7, 1.0 / 9, 1.0 / 11, 1.0 / 13, 1.0 / 15, 1.0 / 17, 1.0 / 19, 1.0 / 21, 1.0 / 23}
	s := (m - 1) / (m + 1)
	p := Polynomial(float64(s*s), odd[:]...)
	k := float64(power)
	return float64(k*lnGreat) + (float64(2*float64(s*p)) + float64(k*lnSmall))
}

// Exp of a number.
func Exp(x float64) float64 {
	switch {
	case math.IsNaN(x):
		return x
	case x > 710:
		return math.Inf(1)
	case x < -746:
		return 0
	}
	parts := [15]float64{1, 1, 1.0 / 2, 1.0 / 6, 1.0 / 24, 1.0 / 120, 1.0 / 720, 1.0 / 5040, 1.0 / 40320, 1.0 / 362880, 1.0 / 3628800, 1.0 / 39916800, 1.0 / 479001600, 1.0 / 6227020800, 1.0 / 87178291200}
	k := math.Floor(float64(x*1.4426950408889634) + 0.5)
	r := (x - float64(k*lnGreat)) - float64(k*lnSmall)
	return math.Ldexp(Polynomial(r, parts[:]...), int(k))
}

// Unsigned: a number whose 0 has no sign, as all that is answered has none.
func Unsigned(x float64) float64 {
	if x == 0 {
		return 0
	}
	return x
}

// Polynomial of z, the coefficient of its greatest power last. The product is rounded by itself: without the conversion it could be fused with the sum.
func Polynomial(z float64, parts ...float64) float64 {
	p := 0.0
	for i := len(parts) - 1; i >= 0; i-- {
		p = parts[i] + float64(z*p)
	}
	return p
}
