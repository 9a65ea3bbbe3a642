// Package grain: fractions, enclosures, functions: see ../shared/doc/01-grain.md.
package grain

import "mercator/api"

// ratio is a right fraction: what the four operations work on.
type ratio api.Frac

// Make a fraction.
func Make(num, den int) (api.Frac, error) {
	if den == 0 {
		return api.Frac{}, api.ErrShape
	}
	n, d := size(num), size(den)
	c := divisor(n, d)
	return bounded((num < 0) != (den < 0), wide{lo: n / c}, wide{lo: d / c})
}

// Add fractions.
func Add(a, b api.Frac) (api.Frac, error) { return exactly(a, b, ratio.plus) }

// Sub: less.
func Sub(a, b api.Frac) (api.Frac, error) { return exactly(a, b, ratio.less) }

// Mul: times.
func Mul(a, b api.Frac) (api.Frac, error) { return exactly(a, b, ratio.times) }

// Div: over.
func Div(a, b api.Frac) (api.Frac, error) { return exactly(a, b, ratio.over) }

// Cmp: -1, 0, 1.
func Cmp(a, b api.Frac) (int, error) {
	if !right(a) || !right(b) {
		return 0, api.ErrShape
	}
	left := product(a.Num, uint64(b.Den))
	return left.plus(product(b.Num, uint64(a.Den)).negated()).sign(), nil
}

// Floor: rounded down.
func Floor(a api.Frac) (int, error) {
	if !right(a) {
		return 0, api.ErrShape
	}
	whole, _ := split(a)
	return whole, nil
}

// Near: to the nearest, from the middle to the even one.
func Near(a api.Frac) (int, error) {
	if !right(a) {
		return 0, api.ErrShape
	}
	whole, rest := split(a)
	back := a.Den - rest
	if rest > back || rest == back && whole%2 != 0 {
		whole++
	}
	return whole, nil
}

func exactly(a, b api.Frac, op func(a, b ratio) (api.Frac, error)) (api.Frac, error) {
	if !right(a) || !right(b) {
		return api.Frac{}, api.ErrShape
	}
	return op(ratio(a), ratio(b))
}

func (a ratio) plus(b ratio) (api.Frac, error) {
	ad, bd := uint64(a.Den), uint64(b.Den)
	c := divisor(ad, bd)
	sum := product(a.Num, bd/c).plus(product(b.Num, ad/c))
	below := sum.sign() < 0
	if below {
		sum = sum.negated()
	}
	// a and b are in their lowest terms, so only what divides c can still divide the sum.
	d := divisor(c, sum.left(c))
	return bounded(below, sum.over(d), multiply(ad/c, bd/d))
}

func (a ratio) less(b ratio) (api.Frac, error) {
	return a.plus(ratio{Num: -b.Num, Den: b.Den})
}

func (a ratio) times(b ratio) (api.Frac, error) {
	an, ad := size(a.Num), uint64(a.Den)
	bn, bd := size(b.Num), uint64(b.Den)
	// Taken crosswise ahead of multiplying, no common divisor is left behind it.
	c, d := divisor(an, bd), divisor(bn, ad)
	return bounded((a.Num < 0) != (b.Num < 0), multiply(an/c, bn/d), multiply(ad/d, bd/c))
}

func (a ratio) over(b ratio) (api.Frac, error) {
	if b.Num == 0 {
		return api.Frac{}, api.ErrShape
	}
	if b.Num < 0 {
		return a.times(ratio{Num: -b.Den, Den: -b.Num})
	}
	return a.times(ratio{Num: b.Den, Den: b.Num})
}

func right(a api.Frac) bool {
	if a.Den < 1 || a.Den > api.MaxPart || size(a.Num) > api.MaxPart {
		return false
	}
	return divisor(size(a.Num), uint64(a.Den)) == 1
}

// bounded makes a fraction of numbers that are in their lowest terms.
func bounded(below bool, num, den wide) (api.Frac, error) {
	if num.hi != 0 || num.lo > api.MaxPart || den.hi != 0 || den.lo > api.MaxPart {
		return api.Frac{}, api.ErrBound
	}
	if below {
		return api.Frac{Num: -int(num.lo), Den: int(den.lo)}, nil
	}
	return api.Frac{Num: int(num.lo), Den: int(den.lo)}, nil
}

// split a right fraction: a.Num = whole*a.Den + rest, with rest from 0 on, below a.Den.
func split(a api.Frac) (whole, rest int) {
	whole, rest = a.Num/a.Den, a.Num%a.Den
	if rest < 0 {
		whole, rest = whole-1, rest+a.Den
	}
	return whole, rest
}
