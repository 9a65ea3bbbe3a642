// Package whole: whole numbers of any length, for what must be exact and is too long for an int on the way.
package whole

import "mercator/api"

// Number is a whole number; its zero value is 0. No call changes one.
type Number struct {
	below bool  // never of 0
	size  parts // without its sign
}

// Of an int.
func Of(n int) Number {
	if n < 0 {
		return signed(true, parts{-uint64(n)})
	}
	return signed(false, trimmed(parts{uint64(n)}))
}

// Plus another one.
func (a Number) Plus(b Number) Number {
	if a.below == b.below {
		return signed(a.below, sum(a.size, b.size))
	}
	if compare(a.size, b.size) < 0 {
		return signed(b.below, difference(b.size, a.size))
	}
	return signed(a.below, difference(a.size, b.size))
}

// Less another one.
func (a Number) Less(b Number) Number {
	return a.Plus(signed(!b.below, b.size))
}

// Times another one.
func (a Number) Times(b Number) Number {
	return signed(a.below != b.below, product(a.size, b.size))
}

// Over another one, rounded toward 0; over 0 it is 0.
func (a Number) Over(b Number) Number {
	if b.Sign() == 0 {
		return Number{}
	}
	quotient, _ := divided(a.size, b.size)
	return signed(a.below != b.below, quotient)
}

// Sign: -1, 0, 1.
func (a Number) Sign() int {
	if a.below {
		return -1
	}
	return min(len(a.size), 1)
}

// Frac is num over den. ErrShape: den is 0; ErrBound: it is not right in its lowest terms.
func Frac(num, den Number) (api.Frac, error) {
	if den.Sign() == 0 {
		return api.Frac{}, api.ErrShape
	}
	c := divisor(num.size, den.size)
	n, _ := divided(num.size, c)
	d, _ := divided(den.size, c)
	if len(n) > 1 || len(d) > 1 || n.least() > api.MaxPart || d.least() > api.MaxPart {
		return api.Frac{}, api.ErrBound
	}
	out := api.Frac{Num: int(n.least()), Den: int(d.least())}
	if num.below != den.below {
		out.Num = -out.Num
	}
	return out, nil
}

// signed has no sign where it is 0: so of each number there is one form alone.
func signed(below bool, size parts) Number {
	return Number{below: below && len(size) > 0, size: size}
}
