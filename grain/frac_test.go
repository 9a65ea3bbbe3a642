package grain_test

import (
	"math"
	"math/big"
	"testing"

	"mercator/api"
	"mercator/grain"
)

const most = api.MaxPart

func frac(num, den int) api.Frac { return api.Frac{Num: num, Den: den} }

// exact: what a fraction of any length must be told as.
func exact(r *big.Rat) (api.Frac, error) {
	limit := big.NewInt(most)
	if r.Num().CmpAbs(limit) > 0 || r.Denom().Cmp(limit) > 0 {
		return api.Frac{}, api.ErrBound
	}
	return frac(int(r.Num().Int64()), int(r.Denom().Int64())), nil
}

func rat(a api.Frac) *big.Rat { return big.NewRat(int64(a.Num), int64(a.Den)) }

// parts: numbers near which a fraction's bounds, signs and common divisors lie.
func parts() []int {
	return []int{0, 1, -1, 2, -2, 3, 5, -6, 12, 35, 1 << 31, -(1<<31 + 1), 3037000499, 1<<61 - 1, -(1 << 61), 3 * 1430150000000000000, most - 1, 1 - most, most, -most}
}

func rightFracs() []api.Frac {
	var out []api.Frac
	for _, num := range parts() {
		for _, den := range parts() {
			if a, err := grain.Make(num, den); err == nil {
				out = append(out, a)
			}
		}
	}
	return out
}

func wrongFracs() []api.Frac {
	return []api.Frac{{}, frac(0, 2), frac(2, 4), frac(1, -1), frac(1, 0), frac(-1, 0), frac(most+1, 1), frac(-most-1, 1), frac(1, most+1), frac(math.MinInt, 1), frac(1, math.MinInt), frac(math.MinInt, math.MinInt), frac(math.MaxInt, 2), frac(0, -1)}
}

func TestMakeLowestTerms(t *testing.T) {
	nums := append(parts(), most+1, -most-1, math.MaxInt, math.MinInt, math.MinInt+1)
	for _, num := range nums {
		for _, den := range nums {
			got, err := grain.Make(num, den)
			if den == 0 {
				if got != (api.Frac{}) || err != api.ErrShape {
					t.Error(num, den, got, err)
				}
				continue
			}
			want, fault := exact(rat(frac(num, den)))
			if got != want || err != fault {
				t.Error(num, den, got, err, want, fault)
			}
		}
	}
	if got, err := grain.Make(4, -6); got != frac(-2, 3) || err != nil {
		t.Error(got, err)
	}
}

func TestOperationsAreExact(t *testing.T) {
	all := rightFracs()
	if len(all) < 200 {
		t.Fatal(len(all))
	}
	for name, op := range map[string]struct {
		told  func(a, b api.Frac) (api.Frac, error)
		exact func(z, a, b *big.Rat) *big.Rat
	}{
		"Add": {grain.Add, (*big.Rat).Add}, "Sub": {grain.Sub, (*big.Rat).Sub}, "Mul": {grain.Mul, (*big.Rat).Mul}, "Div": {grain.Div, (*big.Rat).Quo},
	} {
		for _, a := range all {
			for _, b := range all {
				got, err := op.told(a, b)
				if name == "Div" && b.Num == 0 {
					if got != (api.Frac{}) || err != api.ErrShape {
						t.Error(name, a, b, got, err)
					}
					continue
				}
				want, fault := exact(op.exact(new(big.Rat), rat(a), rat(b)))
				if got != want || err != fault {
					t.Fatal(name, a, b, got, err, want, fault)
				}
			}
		}
	}
}

func TestOperationsCancelAheadOfBounds(t *testing.T) {
	for _, c := range []struct {
		op         func(a, b api.Frac) (api.Frac, error)
		a, b, want api.Frac
	}{
		{grain.Add, frac(1, most), frac(1, most), frac(1, most/2)},
		{grain.Add, frac(most-1, most), frac(1, most), frac(1, 1)},
		{grain.Sub, frac(-most, 1), frac(-most, 1), frac(0, 1)},
		{grain.Mul, frac(most, most-1), frac(most-1, most), frac(1, 1)},
		{grain.Mul, frac(0, 1), frac(1, most), frac(0, 1)},
		{grain.Div, frac(-most, 3), frac(-most, 5), frac(5, 3)},
		{grain.Div, frac(0, 1), frac(-most, 1), frac(0, 1)},
	} {
		if got, err := c.op(c.a, c.b); got != c.want || err != nil {
			t.Error(c.a, c.b, got, err, c.want)
		}
	}
}

func TestCmp(t *testing.T) {
	all := rightFracs()
	for _, a := range all {
		for _, b := range all {
			if got, err := grain.Cmp(a, b); got != rat(a).Cmp(rat(b)) || err != nil {
				t.Fatal(a, b, got, err)
			}
		}
	}
	if got, err := grain.Cmp(frac(most-1, most), frac(most-2, most-1)); got != 1 || err != nil {
		t.Error(got, err)
	}
}

func TestFloorAndNear(t *testing.T) {
	for _, a := range rightFracs() {
		r := rat(a)
		floor := new(big.Int).Div(r.Num(), r.Denom()) // Euclid's: down, as Denom is above 0
		near := new(big.Int).Set(floor)
		over := new(big.Rat).Sub(r, new(big.Rat).SetInt(floor)).Cmp(big.NewRat(1, 2))
		if over > 0 || over == 0 && floor.Bit(0) == 1 {
			near.Add(near, big.NewInt(1))
		}
		f, e := grain.Floor(a)
		n, g := grain.Near(a)
		if int64(f) != floor.Int64() || int64(n) != near.Int64() || e != nil || g != nil {
			t.Error(a, f, n, e, g)
		}
	}
	for _, c := range []struct {
		a           api.Frac
		floor, near int
	}{{frac(1, 2), 0, 0}, {frac(-1, 2), -1, 0}, {frac(3, 2), 1, 2}, {frac(-3, 2), -2, -2}, {frac(7, 2), 3, 4}, {frac(most-1, 2), most/2 - 1, most / 2}, {frac(1-most, most), -1, -1}, {frac(-1, most), -1, 0}, {frac(-most, most-1), -2, -1}} {
		f, _ := grain.Floor(c.a)
		n, _ := grain.Near(c.a)
		if f != c.floor || n != c.near {
			t.Error(c, f, n)
		}
	}
}

func TestWrongFractions(t *testing.T) {
	fine := frac(1, 2)
	for _, a := range wrongFracs() {
		for _, op := range []func(a, b api.Frac) (api.Frac, error){grain.Add, grain.Sub, grain.Mul, grain.Div} {
			for _, pair := range [][2]api.Frac{{a, fine}, {fine, a}, {a, a}} {
				if got, err := op(pair[0], pair[1]); got != (api.Frac{}) || err != api.ErrShape {
					t.Error(pair, got, err)
				}
			}
		}
		for _, pair := range [][2]api.Frac{{a, fine}, {fine, a}, {a, a}} {
			if got, err := grain.Cmp(pair[0], pair[1]); got != 0 || err != api.ErrShape {
				t.Error(pair, got, err)
			}
		}
		if got, err := grain.Floor(a); got != 0 || err != api.ErrShape {
			t.Error(a, got, err)
		}
		if got, err := grain.Near(a); got != 0 || err != api.ErrShape {
			t.Error(a, got, err)
		}
		if got := grain.Text(a); got != "" {
			t.Error(a, got)
		}
	}
}
