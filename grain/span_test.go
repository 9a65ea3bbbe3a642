package grain_test

import (
	"math"
	"math/big"
	"testing"

	"mercator/api"
	"mercator/grain"
)

const tiny = math.SmallestNonzeroFloat64

func span(lo, hi float64) api.Span { return api.Span{Lo: lo, Hi: hi} }

func wrongSpans() []api.Span {
	nan, inf := math.NaN(), math.Inf(1)
	return []api.Span{span(1, 0.5), span(tiny, 0), span(nan, 1), span(1, nan), span(nan, nan), span(1, inf), span(-inf, 1), span(inf, inf), span(-inf, inf), span(-inf, -inf)}
}

func TestJoinEnds(t *testing.T) {
	for _, c := range []struct {
		a, b api.Span
		how  byte
		want api.Span // ahead of one step outward
	}{
		{span(1, 2), span(-3, 4), '+', span(-2, 6)},
		{span(1, 2), span(-3, 4), '-', span(-3, 5)},
		{span(1, 2), span(-3, 4), '*', span(-6, 8)},
		{span(-3, 4), span(1, 2), '*', span(-6, 8)},
		{span(-5, -1), span(-3, -2), '*', span(2, 15)},
		{span(-5, 2), span(-3, 7), '*', span(-35, 15)},
		{span(0, 0), span(-3, 7), '*', span(0, 0)},
		{span(-3, 4), span(1, 2), '/', span(-3, 4)},
		{span(-3, 4), span(-2, -1), '/', span(-4, 3)},
		{span(1, 2), span(4, 8), '/', span(0.125, 0.5)},
		{span(1, 1), span(3, 3), '/', span(1.0/3, 1.0/3)},
		{span(0.1, 0.1), span(0.2, 0.2), '+', span(0.30000000000000004, 0.30000000000000004)},
		{span(tiny, tiny), span(0.25, 0.25), '*', span(0, 0)},
		{span(math.MaxFloat64, math.MaxFloat64), span(-math.MaxFloat64, -math.MaxFloat64), '+', span(0, 0)},
	} {
		got, ok := grain.Join(c.a, c.b, c.how)
		if !ok || got.Lo != math.Nextafter(c.want.Lo, math.Inf(-1)) || got.Hi != math.Nextafter(c.want.Hi, math.Inf(1)) {
			t.Error(c.a, string(c.how), c.b, got, ok, c.want)
		}
	}
}

func TestJoinZeroHasNoSign(t *testing.T) {
	got, ok := grain.Join(span(-tiny, -tiny), span(0, 0), '+')
	if !ok || got != span(-2*tiny, 0) || math.Signbit(got.Hi) {
		t.Error(got, ok)
	}
	if got, ok := grain.Rooted(span(math.Copysign(0, -1), 1)); !ok || got.Lo != 0 || math.Signbit(got.Lo) {
		t.Error(got, ok)
	}
}

func TestJoinEncloses(t *testing.T) {
	ends := []float64{-math.MaxFloat64 / 4, -1e10, -3, -0.1, -tiny, 0, tiny, 1e-300, 0.3, 1, 7, 1e10, 1e200}
	joined := 0
	for i := range ends {
		for j := i; j < len(ends); j += 2 {
			for k := range ends {
				for l := k; l < len(ends); l += 3 {
					for _, how := range []byte("+-*/") {
						a, b := span(ends[i], ends[j]), span(ends[k], ends[l])
						if got, ok := grain.Join(a, b, how); ok {
							joined++
							checkEnclosed(t, a, b, how, got)
						}
					}
				}
			}
		}
	}
	if joined < 1000 {
		t.Error(joined)
	}
}

// checkEnclosed: what exact numbers of a and b give is in got.
func checkEnclosed(t *testing.T, a, b api.Span, how byte, got api.Span) {
	t.Helper()
	exactOf := func(x float64) *big.Rat { return new(big.Rat).SetFloat64(x) }
	op := map[byte]func(z, a, b *big.Rat) *big.Rat{'+': (*big.Rat).Add, '-': (*big.Rat).Sub, '*': (*big.Rat).Mul, '/': (*big.Rat).Quo}[how]
	for _, x := range []float64{a.Lo, a.Hi, min(a.Hi, max(a.Lo, a.Lo/2+a.Hi/2))} {
		for _, y := range []float64{b.Lo, b.Hi, min(b.Hi, max(b.Lo, b.Lo/2+b.Hi/2))} {
			z := op(new(big.Rat), exactOf(x), exactOf(y))
			if z.Cmp(exactOf(got.Lo)) < 0 || z.Cmp(exactOf(got.Hi)) > 0 {
				t.Error(a, string(how), b, got, x, y)
			}
		}
	}
}

func TestJoinFalse(t *testing.T) {
	fine, great := span(1, 2), math.MaxFloat64
	check := func(a, b api.Span, how byte) {
		t.Helper()
		if got, ok := grain.Join(a, b, how); ok || got != (api.Span{}) {
			t.Error(a, string(how), b, got, ok)
		}
	}
	for _, a := range wrongSpans() {
		for _, how := range []byte("+-*/") {
			check(a, fine, how)
			check(fine, a, how)
			check(a, a, how)
		}
	}
	for how := range 256 {
		if how != '+' && how != '-' && how != '*' && how != '/' {
			check(fine, fine, byte(how))
		}
	}
	negative := math.Copysign(0, -1)
	for _, b := range []api.Span{span(-1, 1), span(0, 1), span(-1, 0), span(0, 0), span(negative, negative), span(-1, negative)} {
		check(fine, b, '/')
	}
	check(span(0, great), span(0, 0), '+') // one step above the greatest is infinite
	check(span(-great, 0), span(0, 0), '-')
	check(span(great, great), fine, '+')
	check(span(-great, -great), fine, '-')
	check(span(-great, great), fine, '*')
	check(span(great, great), span(-2, -2), '*')
	check(fine, span(tiny, 1), '/')
	check(fine, span(-tiny, -tiny), '/')
}

func TestRooted(t *testing.T) {
	inf := math.Inf(1)
	for _, c := range []struct{ a, want api.Span }{
		{span(0, 0), span(0, tiny)},
		{span(0, 4), span(0, math.Nextafter(2, inf))},
		{span(4, 9), span(math.Nextafter(2, -inf), math.Nextafter(3, inf))},
		{span(2, 2), span(math.Nextafter(math.Sqrt2, -inf), math.Nextafter(math.Sqrt2, inf))},
		{span(tiny, math.MaxFloat64), span(math.Nextafter(math.Sqrt(tiny), -inf), math.Nextafter(math.Sqrt(math.MaxFloat64), inf))},
	} {
		if got, ok := grain.Rooted(c.a); !ok || got != c.want {
			t.Error(c, got, ok)
		}
	}
	for _, a := range append(wrongSpans(), span(-tiny, 1), span(-2, -1)) {
		if got, ok := grain.Rooted(a); ok || got != (api.Span{}) {
			t.Error(a, got, ok)
		}
	}
}

func TestHas(t *testing.T) {
	a := span(-1, 2)
	for _, x := range []float64{-1, 0, 2} {
		if !grain.Has(a, x) {
			t.Error(x)
		}
	}
	for _, x := range []float64{math.Nextafter(-1, -2), math.Nextafter(2, 3), math.NaN(), math.Inf(1), math.Inf(-1)} {
		if grain.Has(a, x) {
			t.Error(x)
		}
	}
	for _, w := range wrongSpans() {
		for _, x := range []float64{0, 0.7, 1, math.NaN(), math.Inf(1), math.Inf(-1)} {
			if grain.Has(w, x) {
				t.Error(w, x)
			}
		}
	}
}
