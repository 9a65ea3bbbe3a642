package grain

import (
	"math/bits"

	"mercator/api"
)

// A digit of a natural holds as many decimal digits as can be added twice within an uint64.
const (
	digitLong = 18
	digitBase = 1000000000000000000
)

// natural is a whole number of any length, not below 0: its digits, the least one first, the last one not 0. It stays decimal, so that a long text is read in a time that grows only as its length.
type natural []uint64

func readNatural(digits string) natural {
	var n natural
	for end := len(digits); end > 0; end -= digitLong {
		n = append(n, readDigit(digits[max(0, end-digitLong):end]))
	}
	return n.trimmed()
}

func readDigit(digits string) uint64 {
	d := uint64(0)
	for i := range len(digits) {
		d = d*10 + uint64(digits[i]-'0')
	}
	return d
}

func (n natural) trimmed() natural {
	for len(n) > 0 && n[len(n)-1] == 0 {
		n = n[:len(n)-1]
	}
	return n
}

func (n natural) below(o natural) bool {
	if len(n) != len(o) {
		return len(n) < len(o)
	}
	for i := len(n) - 1; i >= 0; i-- {
		if n[i] != o[i] {
			return n[i] < o[i]
		}
	}
	return false
}

func (n natural) doubled() natural {
	out := make(natural, 0, len(n)+1)
	carry := uint64(0)
	for _, d := range n {
		d = 2*d + carry
		carry = d / digitBase
		out = append(out, d%digitBase)
	}
	return append(out, carry).trimmed()
}

// less o, which is not above n.
func (n natural) less(o natural) natural {
	out := make(natural, len(n))
	borrow := uint64(0)
	for i, d := range n {
		take := borrow
		if i < len(o) {
			take += o[i]
		}
		borrow = 0
		if d < take {
			d, borrow = d+digitBase, 1
		}
		out[i] = d - take
	}
	return out.trimmed()
}

// divided: n = times*by + rest; by is not 0; false: times is 2^63 or above.
func (n natural) divided(by natural) (times uint64, rest natural, ok bool) {
	doubles := []natural{by}
	for last := by; !n.below(last); doubles = append(doubles, last) {
		if len(doubles) == 64 {
			return 0, nil, false
		}
		last = last.doubled()
	}
	for i := len(doubles) - 1; i >= 0; i-- {
		times *= 2
		if !n.below(doubles[i]) {
			n = n.less(doubles[i])
			times++
		}
	}
	return times, n, true
}

// lowest terms of num over den, which is not 0; false: they are not right. The convergents of its continued fraction grow up to these terms, so it can be left as soon as one is too great.
func lowest(num, den natural) (api.Frac, bool) {
	p, q := [2]uint64{0, 1}, [2]uint64{1, 0}
	for len(den) > 0 {
		times, rest, ok := num.divided(den)
		if !ok {
			return api.Frac{}, false
		}
		p[0], p[1] = p[1], convergent(times, p)
		q[0], q[1] = q[1], convergent(times, q)
		if p[1] > api.MaxPart || q[1] > api.MaxPart {
			return api.Frac{}, false
		}
		num, den = den, rest
	}
	return api.Frac{Num: int(p[1]), Den: int(q[1])}, true
}

// convergent: times*last[1] + last[0], or a number above MaxPart, if that is too great.
func convergent(times uint64, last [2]uint64) uint64 {
	hi, lo := bits.Mul64(times, last[1])
	if hi != 0 || lo > api.MaxPart {
		return api.MaxPart + 1
	}
	return lo + last[0]
}
