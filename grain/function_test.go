package grain_test

import (
	"math"
	"math/big"
	"testing"

	"mercator/grain"
)

// num is a number whose operations are rounded by themselves, to 53 bits, to the nearest, from the middle to the even one: whatever the machine does with products and sums.
type num struct{ f *big.Float }

func of(x float64) num { return num{new(big.Float).SetPrec(53).SetFloat64(x)} }

func fresh() *big.Float { return new(big.Float).SetPrec(53).SetMode(big.ToNearestEven) }

func (a num) add(b num) num { return num{fresh().Add(a.f, b.f)} }
func (a num) sub(b num) num { return num{fresh().Sub(a.f, b.f)} }
func (a num) mul(b num) num { return num{fresh().Mul(a.f, b.f)} }
func (a num) div(b num) num { return num{fresh().Quo(a.f, b.f)} }
func (a num) neg() num      { return num{fresh().Neg(a.f)} }

func (a num) float() float64 {
	x, _ := a.f.Float64()
	return x
}

func oneOver(n int64) num {
	one := big.NewFloat(1)
	return num{fresh().Quo(one, new(big.Float).SetInt64(n))}
}

func factorial(n int64) int64 {
	f := int64(1)
	for i := int64(2); i <= n; i++ {
		f *= i
	}
	return f
}

func lnTold(x float64) float64 {
	m, k := x, 0
	for m < 0.7071067811865476 {
		m, k = m*2, k-1
	}
	for m >= 2*0.7071067811865476 {
		m, k = m/2, k+1
	}
	s := of(m).sub(of(1)).div(of(m).add(of(1)))
	z := s.mul(s)
	p := oneOver(23)
	for n := int64(21); n >= 1; n -= 2 {
		p = oneOver(n).add(z.mul(p))
	}
	great, small := of(float64(k)).mul(of(0.6931471803691238)), of(float64(k)).mul(of(1.9082149292705877e-10))
	return great.add(of(2).mul(s.mul(p)).add(small)).float()
}

func expTold(x float64) float64 {
	k := math.Floor(of(x).mul(of(1.4426950408889634)).add(of(0.5)).float())
	r := of(x).sub(of(k).mul(of(0.6931471803691238))).sub(of(k).mul(of(1.9082149292705877e-10)))
	p := oneOver(factorial(14))
	for n := int64(13); n >= 0; n-- {
		p = oneOver(factorial(n)).add(r.mul(p))
	}
	return num{fresh().SetMantExp(p.f, int(k))}.float()
}

func sameBits(a, b float64) bool { return math.Float64bits(a) == math.Float64bits(b) }

func TestLnBits(t *testing.T) {
	for _, c := range []struct {
		x    float64
		bits uint64
	}{
		{1, 0}, {2, 0x3fe62e42fefa39ef}, {10, 0x40026bb1bbb55516}, {0.1, 0xc0026bb1bbb55515}, {3.7, 0x3ff4eeee650ae550}, {123456.789, 0x40277281cad8a844},
		{1e300, 0x4085963447f87fb5}, {5e-324, 0xc0874385446d71c3}, {math.MaxFloat64, 0x40862e42fefa39ef},
		{0.7071067811865476, 0xbfd62e42fefa39ee}, {0.7071067811865475, 0xbfd62e42fefa39f1}, {1.4142135623730951, 0x3fd62e42fefa39f0}, {1.4142135623730954, 0x3fd62e42fefa39f3},
	} {
		if got := math.Float64bits(grain.Ln(c.x)); got != c.bits {
			t.Errorf("%v: %x, want %x", c.x, got, c.bits)
		}
	}
	for i := range 4000 {
		x := math.Ldexp(1+float64(i)/1777, i*7%2040-1060)
		if got, want := grain.Ln(x), lnTold(x); !sameBits(got, want) {
			t.Fatal(x, got, want)
		}
	}
	for i := -2000; i <= 2000; i++ {
		x := 1 + float64(i)/4001
		if got, want := grain.Ln(x), lnTold(x); !sameBits(got, want) {
			t.Fatal(x, got, want)
		}
	}
}

func TestExpBits(t *testing.T) {
	for _, c := range []struct {
		x    float64
		bits uint64
	}{
		{0, 0x3ff0000000000000}, {1, 0x4005bf0a8b14576a}, {-1, 0x3fd78b56362cef38}, {0.1, 0x3ff1aec7b35a00d4}, {20.5, 0x41c7d6c4f0bcdd5c}, {-0.3, 0x3fe7b4c869c37c05},
		{700, 0x7f0d945df4f8ec8e}, {-700, 0x00d14f2b0fb9307f}, {709.7, 0x7fed75ae7a50ee14}, {709.78, 0x7fefe9ce5c4c52b4}, {709.79, 0x7ff0000000000000}, {710, 0x7ff0000000000000},
		{-708.5, 0x000e6cf6d08897ac}, {-740, 0x55}, {-744.9, 1}, {-745.1, 1}, {-745.2, 0}, {-746, 0},
	} {
		if got := math.Float64bits(grain.Exp(c.x)); got != c.bits {
			t.Errorf("%v: %x, want %x", c.x, got, c.bits)
		}
	}
	for i := -7460; i <= 7100; i++ {
		x := float64(i)/10 + float64(i%13)/997
		if x > 710 || x < -746 {
			continue
		}
		if got, want := grain.Exp(x), expTold(x); !sameBits(got, want) {
			t.Fatal(x, got, want)
		}
	}
}

func TestFunctionEnds(t *testing.T) {
	nan, inf := math.NaN(), math.Inf(1)
	for _, x := range []float64{nan, -tiny, -0.3, -1, -7.5, -inf} {
		if got := grain.Ln(x); !math.IsNaN(got) {
			t.Error(x, got)
		}
	}
	if grain.Ln(0) != -inf || grain.Ln(math.Copysign(0, -1)) != -inf || grain.Ln(inf) != inf {
		t.Error("Ln")
	}
	if !math.IsNaN(grain.Exp(nan)) || grain.Exp(inf) != inf || grain.Exp(-inf) != 0 || grain.Exp(math.Nextafter(710, inf)) != inf || grain.Exp(math.Nextafter(-746, -inf)) != 0 {
		t.Error("Exp")
	}
}

// P3: the 0 of what is answered has no sign.
func TestUnsigned(t *testing.T) {
	if math.Signbit(grain.Unsigned(math.Copysign(0, -1))) || math.Signbit(grain.Unsigned(0)) {
		t.Error("a zero has a sign")
	}
	for _, x := range []float64{1, -1, math.SmallestNonzeroFloat64, -math.SmallestNonzeroFloat64, math.Inf(1), math.Inf(-1)} {
		if got := grain.Unsigned(x); got != x {
			t.Error(x, got)
		}
	}
	if !math.IsNaN(grain.Unsigned(math.NaN())) {
		t.Error("NaN is a number")
	}
}

func TestPolynomial(t *testing.T) {
	for _, c := range []struct {
		z     float64
		parts []float64
		want  float64
	}{
		{3, nil, 0}, {3, []float64{7}, 7}, {3, []float64{7, -2}, 1}, {-2, []float64{1, 2, 3, 4}, -23}, {0, []float64{5, 1, 1}, 5}, {0.5, []float64{0, 0, 0, 1}, 0.125},
		{1 + 0x1p-52, []float64{-1, 1 - 0x1p-53}, 0}, // the product is rounded by itself: fused with the sum it would not give 0
	} {
		if got := grain.Polynomial(c.z, c.parts...); !sameBits(got, c.want) {
			t.Error(c, got)
		}
	}
}
