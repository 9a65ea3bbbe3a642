package grain

import (
	"math"
	"slices"

	"mercator/api"
)

// Join two spans.
func Join(a, b api.Span, how byte) (api.Span, bool) {
	if !rightSpan(a) || !rightSpan(b) {
		return api.Span{}, false
	}
	ends := endsOf(a, b, how)
	if len(ends) == 0 {
		return api.Span{}, false
	}
	return told(api.Span{Lo: nextBelow(slices.Min(ends)), Hi: nextAbove(slices.Max(ends))})
}

// Rooted: square roots of a span.
func Rooted(a api.Span) (api.Span, bool) {
	if !rightSpan(a) || a.Lo < 0 {
		return api.Span{}, false
	}
	return told(api.Span{Lo: max(0, nextBelow(math.Sqrt(a.Lo))), Hi: nextAbove(math.Sqrt(a.Hi))})
}

// Has a span a number?
func Has(a api.Span, x float64) bool { return rightSpan(a) && a.Lo <= x && x <= a.Hi }

// endsOf: what the ends of right spans give; none: it can't be done.
func endsOf(a, b api.Span, how byte) []float64 {
	switch how {
	case '+':
		return []float64{a.Lo + b.Lo, a.Hi + b.Hi}
	case '-':
		return []float64{a.Lo - b.Hi, a.Hi - b.Lo}
	case '*':
		return []float64{a.Lo * b.Lo, a.Lo * b.Hi, a.Hi * b.Lo, a.Hi * b.Hi}
	case '/':
		if Has(b, 0) {
			return nil
		}
		return []float64{a.Lo / b.Lo, a.Lo / b.Hi, a.Hi / b.Lo, a.Hi / b.Hi}
	}
	return nil
}

func told(a api.Span) (api.Span, bool) {
	if !rightSpan(a) {
		return api.Span{}, false
	}
	return api.Span{Lo: Unsigned(a.Lo), Hi: Unsigned(a.Hi)}, true
}

func rightSpan(a api.Span) bool { return finite(a.Lo) && finite(a.Hi) && a.Lo <= a.Hi }

func finite(x float64) bool { return !math.IsNaN(x) && !math.IsInf(x, 0) }

func nextBelow(x float64) float64 { return math.Nextafter(x, math.Inf(-1)) }

func nextAbove(x float64) float64 { return math.Nextafter(x, math.Inf(1)) }
