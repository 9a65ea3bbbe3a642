package grain

import "math/bits"

// wide is a whole number of 128 bits, below 0 as its two's complement: a sum of two products of a right fraction's numbers stays within it.
type wide struct{ hi, lo uint64 }

func multiply(a, b uint64) wide {
	hi, lo := bits.Mul64(a, b)
	return wide{hi, lo}
}

func product(num int, by uint64) wide {
	w := multiply(size(num), by)
	if num < 0 {
		return w.negated()
	}
	return w
}

func (w wide) plus(o wide) wide {
	lo, carry := bits.Add64(w.lo, o.lo, 0)
	hi, _ := bits.Add64(w.hi, o.hi, carry)
	return wide{hi, lo}
}

func (w wide) negated() wide {
	lo, borrow := bits.Sub64(0, w.lo, 0)
	hi, _ := bits.Sub64(0, w.hi, borrow)
	return wide{hi, lo}
}

func (w wide) sign() int {
	switch {
	case w.hi>>63 == 1:
		return -1
	case w.hi == 0 && w.lo == 0:
		return 0
	}
	return 1
}

// over a number that is not 0; w is not below 0.
func (w wide) over(by uint64) wide {
	lo, _ := bits.Div64(w.hi%by, w.lo, by)
	return wide{w.hi / by, lo}
}

// left over of a division by a number that is not 0; w is not below 0.
func (w wide) left(by uint64) uint64 { return bits.Rem64(w.hi, w.lo, by) }

// size is told without a sign, because the least int has no opposite.
func size(n int) uint64 {
	if n < 0 {
		return -uint64(n)
	}
	return uint64(n)
}

// divisor: the greatest common one; that of 0 and b is b.
func divisor(a, b uint64) uint64 {
	for b != 0 {
		a, b = b, a%b
	}
	return a
}
