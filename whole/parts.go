package whole

import "math/bits"

// parts of a number from 0 on, to the base of 2^64: the least one first, the last one not 0.
type parts []uint64

func (a parts) least() uint64 {
	if len(a) == 0 {
		return 0
	}
	return a[0]
}

// trimmed of zeros at the end.
func trimmed(a parts) parts {
	n := len(a)
	for n > 0 && a[n-1] == 0 {
		n--
	}
	return a[:n]
}

// compare: -1, 0, 1.
func compare(a, b parts) int {
	if len(a) != len(b) {
		if len(a) < len(b) {
			return -1
		}
		return 1
	}
	for i := len(a) - 1; i >= 0; i-- {
		if a[i] != b[i] {
			if a[i] < b[i] {
				return -1
			}
			return 1
		}
	}
	return 0
}

func sum(a, b parts) parts {
	out := make(parts, max(len(a), len(b))+1)
	copy(out, a)
	add(out, b)
	return trimmed(out)
}

// difference of numbers of which b is not the greater one.
func difference(a, b parts) parts {
	out := make(parts, len(a))
	copy(out, a)
	subtract(out, b, 1)
	return trimmed(out)
}

func product(a, b parts) parts {
	out := make(parts, len(a)+len(b))
	for i, times := range a {
		var carry uint64
		for j, one := range b {
			high, low := bits.Mul64(one, times)
			low, more := bits.Add64(low, carry, 0)
			out[i+j], carry = bits.Add64(out[i+j], low, 0)
			carry += high + more
		}
		out[i+len(b)] = carry
	}
	return trimmed(out)
}

// add b to a, in a's length; what is carried out of it is told.
func add(a, b parts) uint64 {
	var carry uint64
	for i := range a {
		var other uint64
		if i < len(b) {
			other = b[i]
		}
		a[i], carry = bits.Add64(a[i], other, carry)
	}
	return carry
}

// subtract so many times b from a, in a's length, which that is no longer than; what is borrowed from beyond it is told.
func subtract(a, b parts, times uint64) uint64 {
	var carry, borrow uint64
	for i := range a {
		var other uint64
		if i < len(b) {
			other = b[i]
		}
		high, low := bits.Mul64(other, times)
		low, more := bits.Add64(low, carry, 0)
		a[i], borrow = bits.Sub64(a[i], low, borrow)
		carry = high + more
	}
	return borrow
}

// divided: the quotient, rounded down, and what is left; b is not 0.
func divided(a, b parts) (parts, parts) {
	if compare(a, b) < 0 {
		return nil, a
	}
	// With the divisor's first bit at the top of its part, a digit guessed by that part is at most 2 too great.
	shift := bits.LeadingZeros64(b[len(b)-1])
	left, by := shifted(a, shift), trimmed(shifted(b, shift))
	n := len(by)
	quotient := make(parts, len(left)-n)
	for at := len(quotient) - 1; at >= 0; at-- {
		piece := left[at : at+n+1]
		digit := guess(piece[n], piece[n-1], by[n-1])
		for below := subtract(piece, by, digit) != 0; below; digit-- {
			below = add(piece, by) == 0
		}
		quotient[at] = digit
	}
	return trimmed(quotient), lowered(left, shift)
}

// guess a digit of a quotient; high is at most by.
func guess(high, low, by uint64) uint64 {
	if high >= by {
		return 1<<64 - 1
	}
	digit, _ := bits.Div64(high, low, by)
	return digit
}

// shifted up by less than 64 bits, with a part more, which may be 0.
func shifted(a parts, shift int) parts {
	out := make(parts, len(a)+1)
	for i, one := range a {
		out[i] |= one << shift
		out[i+1] = one >> (64 - shift)
	}
	return out
}

// lowered is shifted, the other way.
func lowered(a parts, shift int) parts {
	out := make(parts, len(a))
	for i, one := range a {
		out[i] = one >> shift
		if i > 0 {
			out[i-1] |= one << (64 - shift)
		}
	}
	return trimmed(out)
}

// divisor: the greatest common one; of 0 and a number, that number.
func divisor(a, b parts) parts {
	for len(b) > 0 {
		_, left := divided(a, b)
		a, b = b, left
	}
	return a
}
