package whole_test

import (
	"math"
	"math/big"
	"testing"

	"mercator/api"
	"mercator/whole"
)

// told: a number as its digits in the base of 2^62 tell it, each asked for by the package's own calls.
func told(t *testing.T, a whole.Number) *big.Int {
	t.Helper()
	out, scale, base := new(big.Int), big.NewInt(1), whole.Of(1<<62)
	for a.Sign() != 0 {
		over := a.Over(base)
		digit, err := whole.Frac(a.Less(over.Times(base)), whole.Of(1))
		if err != nil || digit.Den != 1 {
			t.Fatal(digit, err)
		}
		out.Add(out, new(big.Int).Mul(scale, big.NewInt(int64(digit.Num))))
		scale.Lsh(scale, 62)
		a = over
	}
	return out
}

// made of a text of decimal digits.
func made(text string) whole.Number {
	var out whole.Number
	below := text[0] == '-'
	for _, digit := range text {
		if digit != '-' {
			out = out.Times(whole.Of(10)).Plus(whole.Of(int(digit - '0')))
		}
	}
	if below {
		return whole.Of(0).Less(out)
	}
	return out
}

// numbers around those where a part begins, a carry goes through all of them, or a guessed digit is too great.
func numbers() []*big.Int {
	var out []*big.Int
	for _, shift := range []uint{0, 1, 31, 62, 63, 64, 65, 95, 127, 128, 129, 190, 192, 256, 320} {
		for _, more := range []int64{-1, 0, 1} {
			n := new(big.Int).Lsh(big.NewInt(1), shift)
			out = append(out, n.Add(n, big.NewInt(more)))
		}
	}
	for _, text := range []string{
		"7", "720720", "6277101735386680763835789423207666416083908700390324961279", // 2^192 - 2^64 - 1
		"170141183460469231731687303715884105727", "340282366920938463444927863358058659840", // 2^128 - 2^64
		"115792089237316195417293883273301227089434195242432897623355228563449095127040",
		"231584178474632390847141970017375815706199686964360189615451793408394491068416",
	} {
		n, _ := new(big.Int).SetString(text, 10)
		out = append(out, n)
	}
	for _, n := range out {
		out = append(out, new(big.Int).Neg(n))
	}
	return out
}

func TestOperationsAreExact(t *testing.T) {
	for _, x := range numbers() {
		a := made(x.String())
		if told(t, a).Cmp(x) != 0 || a.Sign() != x.Sign() {
			t.Error(x, told(t, a), a.Sign())
		}
		for _, y := range numbers() {
			b := made(y.String())
			over := new(big.Int)
			if y.Sign() != 0 {
				over.Quo(x, y)
			}
			for name, c := range map[string]struct {
				got  whole.Number
				want *big.Int
			}{
				"Plus": {a.Plus(b), new(big.Int).Add(x, y)}, "Less": {a.Less(b), new(big.Int).Sub(x, y)},
				"Times": {a.Times(b), new(big.Int).Mul(x, y)}, "Over": {a.Over(b), over},
			} {
				if got := told(t, c.got); got.Cmp(c.want) != 0 {
					t.Error(name, x, y, got, c.want)
				}
			}
		}
	}
}

// A product over one of its numbers is the other one, and one less is rounded toward 0.
func TestOverProducts(t *testing.T) {
	for _, x := range numbers() {
		for _, y := range numbers() {
			if x.Sign() <= 0 || y.Sign() <= 0 {
				continue
			}
			z := new(big.Int).Mul(x, y)
			for _, more := range []int64{-1, 0, 1} {
				n := new(big.Int).Add(z, big.NewInt(more))
				if got, want := told(t, made(n.String()).Over(made(y.String()))), new(big.Int).Quo(n, y); got.Cmp(want) != 0 {
					t.Error(n, y, got, want)
				}
			}
		}
	}
}

// joined: a number of such parts to the base of 2^64 (some below 0), the greatest one first.
func joined(l ...int) whole.Number {
	var out whole.Number
	for _, n := range l {
		out = out.Times(whole.Of(1 << 62)).Times(whole.Of(4)).Plus(whole.Of(n))
	}
	return out
}

// A digit that is guessed by the divisor's first part may be too great by 1 and by 2: with parts near 2^63 all of that comes.
func TestOverLeavesLess(t *testing.T) {
	edges := []int{0, 1, -1, math.MaxInt, math.MinInt, math.MinInt + 1}
	for _, high := range edges[1:] {
		for _, a := range edges {
			for _, b := range edges {
				for _, c := range edges {
					leavesLess(t, joined(1, high, a, b, c))
					leavesLess(t, joined(1, high, a, b, c).Times(joined(1, a, 1)))
				}
			}
		}
	}
}

func leavesLess(t *testing.T, n whole.Number) {
	t.Helper()
	for _, high := range []int{1, math.MaxInt, 1 << 62} {
		for _, low := range []int{0, 1, -1, math.MinInt, math.MaxInt} {
			for _, by := range []whole.Number{joined(high, low), joined(high, high, -1), joined(1, high, 0, low), joined(2, math.MinInt, low), joined(1, math.MinInt, -1)} {
				left := n.Less(n.Over(by).Times(by))
				if n.Sign() <= 0 || by.Sign() <= 0 || left.Sign() < 0 || left.Less(by).Sign() >= 0 {
					t.Fatal(told(t, n), told(t, by), told(t, n.Over(by)))
				}
			}
		}
	}
}

func TestFrac(t *testing.T) {
	limit := big.NewInt(api.MaxPart)
	for _, x := range numbers() {
		for _, y := range numbers() {
			got, err := whole.Frac(made(x.String()), made(y.String()))
			if y.Sign() == 0 {
				if got != (api.Frac{}) || err != api.ErrShape {
					t.Error(x, y, got, err)
				}
				continue
			}
			want, fault := api.Frac{}, error(api.ErrBound)
			if r := new(big.Rat).SetFrac(x, y); r.Num().CmpAbs(limit) <= 0 && r.Denom().Cmp(limit) <= 0 {
				want, fault = api.Frac{Num: int(r.Num().Int64()), Den: int(r.Denom().Int64())}, nil
			}
			if got != want || err != fault {
				t.Error(x, y, got, err, want, fault)
			}
		}
	}
}

func TestOf(t *testing.T) {
	for _, n := range []int{0, 1, -1, math.MaxInt, math.MinInt, math.MinInt + 1} {
		if got := told(t, whole.Of(n)); got.Cmp(big.NewInt(int64(n))) != 0 {
			t.Error(n, got)
		}
	}
	var zero whole.Number
	if zero.Sign() != 0 || whole.Of(0).Sign() != 0 || zero.Plus(whole.Of(5)).Less(whole.Of(5)).Sign() != 0 || whole.Of(-5).Over(zero).Sign() != 0 || zero.Times(whole.Of(-1)).Sign() != 0 {
		t.Error("zero")
	}
}
