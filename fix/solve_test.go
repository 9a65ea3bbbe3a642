package fix_test

import (
	"math/big"
	"math/rand"
	"slices"
	"testing"

	"mercator/api"
	"mercator/fix"
)

func number(n int) *big.Int { return big.NewInt(int64(n)) }

func times(a, b *big.Int) *big.Int { return new(big.Int).Mul(a, b) }

func less(a, b *big.Int) *big.Int { return new(big.Int).Sub(a, b) }

// right: a fraction of any length, as it is told; false: it is too long.
func right(r *big.Rat) (api.Frac, bool) {
	limit := number(api.MaxPart)
	if r.Num().CmpAbs(limit) > 0 || r.Denom().Cmp(limit) > 0 {
		return api.Frac{}, false
	}
	return frac(int(r.Num().Int64()), int(r.Denom().Int64())), true
}

// equations, with numbers of any length.
func equations(l []fix.Range) [][3]*big.Int {
	var out [][3]*big.Int
	for i := 1; i < len(l); i++ {
		a, b, q := number(l[0].From.X), number(l[0].From.Y), number(l[0].Square)
		c, d, r := number(l[i].From.X), number(l[i].From.Y), number(l[i].Square)
		here := less(new(big.Int).Add(times(c, c), times(d, d)), r)
		there := less(new(big.Int).Add(times(a, a), times(b, b)), q)
		out = append(out, [3]*big.Int{times(number(2), less(c, a)), times(number(2), less(d, b)), less(here, there)})
	}
	return out
}

// mean: the least squares another way: each two equations meet in a point, and the mean of all these points, weighed by the squares of their determinants, is where the sum is least. False: no two meet.
func mean(l []fix.Range) (x, y *big.Rat, some bool) {
	sumX, sumY, weight := new(big.Int), new(big.Int), new(big.Int)
	all := equations(l)
	for i, e := range all {
		for _, f := range all[:i] {
			det := less(times(e[0], f[1]), times(e[1], f[0]))
			sumX.Add(sumX, times(det, less(times(e[2], f[1]), times(e[1], f[2]))))
			sumY.Add(sumY, times(det, less(times(e[0], f[2]), times(e[2], f[0]))))
			weight.Add(weight, times(det, det))
		}
	}
	if weight.Sign() == 0 {
		return nil, nil, false
	}
	return new(big.Rat).SetFrac(sumX, weight), new(big.Rat).SetFrac(sumY, weight), true
}

// P81: rows that were worked out by hand.
func TestSolve(t *testing.T) {
	for _, c := range []struct {
		l    []fix.Range
		x, y api.Frac
	}{
		{corner(), frac(3, 1), frac(4, 1)},
		{[]fix.Range{from(0, 0, 0), from(1, 0, 0), from(0, 1, 0)}, frac(1, 2), frac(1, 2)},
		{[]fix.Range{from(0, 0, 0), from(1, 0, 1), from(0, 1, 1)}, frac(0, 1), frac(0, 1)},
		{[]fix.Range{from(0, 0, 1), from(-3, 0, 0), from(0, -5, 0)}, frac(-5, 3), frac(-13, 5)},
		// The corners of a square, 2 wide: of the equations 4x = 4, 4y = 4 and 4x + 4y = 6, each is missed by 2/3.
		{[]fix.Range{from(0, 0, 2), from(2, 0, 2), from(0, 2, 2), from(2, 2, 4)}, frac(5, 6), frac(5, 6)},
		// From another corner on, it is another point: 4y = 2, -4x = -2 and 4y - 4x = 0.
		{[]fix.Range{from(2, 0, 2), from(2, 2, 4), from(0, 0, 2), from(0, 2, 2)}, frac(5, 6), frac(2, 3)},
		// One that was measured three times counts three times: 2x = 1 once, 2x = 0 three times.
		{[]fix.Range{from(0, 0, 0), from(0, 1, 0), from(1, 0, 0), from(1, 0, 1), from(1, 0, 1), from(1, 0, 1)}, frac(1, 8), frac(1, 2)},
		// The first point once more tells nothing, whatever its square is.
		{append(corner(), from(0, 0, 9)), frac(3, 1), frac(4, 1)},
		// Two that are one point, and a third beside their line with the first.
		{[]fix.Range{from(5, 5, 1), from(5, 5, 1), from(7, 5, 5), from(5, 7, 5)}, frac(5, 1), frac(5, 1)},
		{[]fix.Range{from(-api.MaxPlace, -api.MaxPlace, farthest), from(api.MaxPlace, -api.MaxPlace, 0), from(-api.MaxPlace, api.MaxPlace, 0)}, frac(1<<26, 1), frac(1<<26, 1)},
	} {
		if x, y, err := fix.Solve(c.l); x != c.x || y != c.y || err != nil {
			t.Error(c, x, y, err)
		}
	}
}

// P81: ErrNone of fewer than three points, and of points in a line, whichever way it goes.
func TestSolveNone(t *testing.T) {
	for _, l := range [][]fix.Range{
		nil, {from(3, 4, 5)}, {from(0, 0, 1), from(1, 1, 1)}, {from(0, 0, 1), from(0, 0, 1), from(0, 0, 2)},
		{from(0, 0, 1), from(3, 5, 1), from(0, 0, 1), from(3, 5, 8)},
		{from(7, 0, 1), from(7, 1, 1), from(7, 5, 3)}, {from(0, -7, 1), from(1, -7, 1), from(5, -7, 3)},
		{from(-2, 1, 1), from(1, 2, 1), from(4, 3, 3), from(-5, 0, 3)},
		{from(-api.MaxPlace, -api.MaxPlace, 0), from(0, 0, farthest), from(api.MaxPlace, api.MaxPlace, 7)},
		slices.Repeat([]fix.Range{from(2, 2, 8)}, api.MaxSeen),
	} {
		if x, y, err := fix.Solve(l); x != (api.Frac{}) || y != (api.Frac{}) || err != api.ErrNone {
			t.Error(l, x, y, err)
		}
	}
	// Next to a line is not on it.
	near := []fix.Range{from(-api.MaxPlace, -api.MaxPlace, 0), from(0, 1, 0), from(api.MaxPlace, api.MaxPlace, 0)}
	if _, _, err := fix.Solve(near); err != nil {
		t.Error(err)
	}
}

// P81: exactly, whatever is too long on the way; ErrBound, if x or y is not right.
func TestSolveIsExact(t *testing.T) {
	none, long, told := 0, 0, 0
	for _, l := range samples(81) {
		var wantX, wantY api.Frac
		want := error(api.ErrNone)
		none++
		if x, y, some := mean(l); some {
			fx, okX := right(x)
			fy, okY := right(y)
			none--
			if want = api.ErrBound; okX && okY {
				wantX, wantY, want = fx, fy, nil
				told++
			} else {
				long++
			}
		}
		if x, y, err := fix.Solve(l); x != wantX || y != wantY || err != want {
			t.Error(l, x, y, err, wantX, wantY, want)
		}
	}
	if none < 20 || long < 20 || told < 20 {
		t.Error("samples are too much alike", none, long, told)
	}
}

// missedBy: the sum of squares at a point.
func missedBy(l []fix.Range, x, y *big.Rat) *big.Rat {
	sum := new(big.Rat)
	for _, e := range equations(l) {
		left := new(big.Rat).Mul(new(big.Rat).SetInt(e[0]), x)
		left.Add(left, new(big.Rat).Mul(new(big.Rat).SetInt(e[1]), y))
		left.Sub(left, new(big.Rat).SetInt(e[2]))
		sum.Add(sum, left.Mul(left, left))
	}
	return sum
}

// P81: what is told is where the sum is least: it grows, wherever one goes from there.
func TestSolveIsLeast(t *testing.T) {
	for _, l := range samples(810) {
		fx, fy, err := fix.Solve(l)
		if err != nil {
			continue
		}
		x, y := big.NewRat(int64(fx.Num), int64(fx.Den)), big.NewRat(int64(fy.Num), int64(fy.Den))
		least := missedBy(l, x, y)
		for _, step := range [][2]int64{{1, 0}, {-1, 0}, {0, 1}, {0, -1}, {1, 1}, {1, -1}, {-1, 1}, {-1, -1}} {
			for _, part := range []int64{1, 1 << 40} {
				farX, farY := new(big.Rat).Add(x, big.NewRat(step[0], part)), new(big.Rat).Add(y, big.NewRat(step[1], part))
				if sum := missedBy(l, farX, farY); sum.Cmp(least) <= 0 {
					t.Error(l, step, part, sum, least)
				}
			}
		}
	}
}

// turned: x and y in each other's place.
func turned(l []fix.Range) []fix.Range {
	var out []fix.Range
	for _, r := range l {
		out = append(out, from(r.From.Y, r.From.X, r.Square))
	}
	return out
}

// P81: on both sides of what is right, by what is above the line, while the other number is right.
func TestSolveBound(t *testing.T) {
	for _, c := range []struct {
		l    []fix.Range
		x, y api.Frac
		err  error
	}{
		{[]fix.Range{from(0, 0, 3918169933174148), from(1992, -1431, 0), from(1969, 1177, 695468318290961)}, frac(api.MaxPart, 5162223), frac(-1295254982935266653, 10324446), nil},
		{[]fix.Range{from(0, 0, 3428762834513518), from(-362, -1345, 77246834689731), from(1604, 1376, 0)}, frac(api.MaxPart-1, 1659268), frac(-1654260953634970011, 829634), nil},
		{[]fix.Range{from(0, 0, 3597258979497436), from(371, 1282, 414590921633013), from(-1771, -1449, 0)}, frac(-api.MaxPart, 1732843), frac(497934872640604049, 247549), nil},
		// (MaxPart + 1) / 788914, and -(MaxPart + 1) / 36016.
		{[]fix.Range{from(0, 0, 4230904599385614), from(932, -1090, 1862293395264988), from(-941, 1947, 0)}, api.Frac{}, api.Frac{}, api.ErrBound},
		{[]fix.Range{from(0, 0, 0), from(1714, -1539, 4052448176157095), from(-1244, 1138, 2996547123327694)}, api.Frac{}, api.Frac{}, api.ErrBound},
	} {
		if x, y, err := fix.Solve(c.l); x != c.x || y != c.y || err != c.err {
			t.Error(c, x, y, err)
		}
		if x, y, err := fix.Solve(turned(c.l)); x != c.y || y != c.x || err != c.err {
			t.Error(c, x, y, err)
		}
	}
}

// P81: ErrBound by what is below the line alone, of a point that is next to (0, 0).
func TestSolveLongBelow(t *testing.T) {
	limit := number(api.MaxPart)
	r := rand.New(rand.NewSource(811))
	some := 0
	for range 200 {
		l := sample(r, 4, 1<<16, 9)
		for i, one := range l {
			l[i].Square += one.From.X*one.From.X + one.From.Y*one.From.Y
		}
		x, y, ok := mean(l)
		if !ok || x.Num().CmpAbs(limit) > 0 || y.Num().CmpAbs(limit) > 0 || x.Denom().Cmp(limit) <= 0 && y.Denom().Cmp(limit) <= 0 {
			continue
		}
		some++
		if x, y, err := fix.Solve(l); x != (api.Frac{}) || y != (api.Frac{}) || err != api.ErrBound {
			t.Error(l, x, y, err)
		}
	}
	if some < 20 {
		t.Error("next to no sample is long below the line alone", some)
	}
}
