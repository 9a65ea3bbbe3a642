package fix_test

import (
	"math"
	"math/big"
	"math/rand"
	"slices"
	"testing"

	"mercator/api"
	"mercator/fix"
)

// P82: rows that were worked out by hand.
func TestMiss(t *testing.T) {
	for _, c := range []struct {
		l    []fix.Range
		at   api.Spot
		want int
	}{
		{nil, spot(5, 5), 0},
		{corner(), spot(3, 4), 0},
		{corner(), spot(0, 0), 25 + 11 + 39},
		{corner(), spot(-1, 2), 20 + 28 + 12},
		{[]fix.Range{from(0, 0, 26), from(6, 0, 25), from(0, 8, 24)}, spot(3, 4), 2},
		// Those too long and those too short do not make up for each other; one that was measured twice counts twice.
		{[]fix.Range{from(1, 1, 3), from(1, 1, 1), from(1, 1, 1)}, spot(2, 2), 1 + 1 + 1},
		{[]fix.Range{from(api.MaxPlace, api.MaxPlace, 0)}, spot(-api.MaxPlace, -api.MaxPlace), 1 << 51},
		{slices.Repeat([]fix.Range{from(-api.MaxPlace, api.MaxPlace, farthest)}, api.MaxSeen), spot(-api.MaxPlace, api.MaxPlace), api.MaxSeen << 52},
		{slices.Repeat([]fix.Range{from(-api.MaxPlace, api.MaxPlace, 0)}, api.MaxSeen), spot(api.MaxPlace, -api.MaxPlace), api.MaxSeen << 51},
	} {
		if got, err := fix.Miss(c.l, c.at); got != c.want || err != nil {
			t.Error(c, got, err)
		}
	}
}

// missOf with numbers of any length.
func missOf(l []fix.Range, at api.Spot) *big.Int {
	sum := new(big.Int)
	for _, r := range l {
		x, y := less(number(at.X), number(r.From.X)), less(number(at.Y), number(r.From.Y))
		by := less(new(big.Int).Add(times(x, x), times(y, y)), number(r.Square))
		sum.Add(sum, by.Abs(by))
	}
	return sum
}

// P82: nothing is too long on the way.
func TestMissIsExact(t *testing.T) {
	r := rand.New(rand.NewSource(82))
	for _, l := range samples(82) {
		for _, place := range []int{3, 100000, api.MaxPlace} {
			at := sample(r, 1, place, 0)[0].From
			if got, err := fix.Miss(l, at); number(got).Cmp(missOf(l, at)) != 0 || err != nil {
				t.Error(l, at, got, err)
			}
		}
	}
}

// P82: ErrShape of a point that is too great.
func TestMissShape(t *testing.T) {
	for _, n := range []int{api.MaxPlace + 1, -api.MaxPlace - 1, math.MaxInt, math.MinInt, math.MinInt + 1} {
		for _, at := range []api.Spot{spot(n, 0), spot(0, n), spot(n, n)} {
			if got, err := fix.Miss(corner(), at); got != 0 || err != api.ErrShape {
				t.Error(at, got, err)
			}
			if got, err := fix.Miss(nil, at); got != 0 || err != api.ErrShape {
				t.Error(at, got, err)
			}
		}
	}
}

// P83: rows that were worked out by hand.
func TestNearest(t *testing.T) {
	for _, c := range []struct {
		l    []fix.Range
		in   api.Box
		at   api.Spot
		miss int
	}{
		{corner(), box(-5, -5, 9, 9), spot(3, 4), 0},
		{corner(), box(3, 4, 3, 4), spot(3, 4), 0},
		// Its corners are in a box, and nothing beyond them.
		{corner(), box(-2, -2, 3, 4), spot(3, 4), 0},
		{corner(), box(3, 4, 7, 7), spot(3, 4), 0},
		{corner(), box(4, 4, 7, 7), spot(4, 4), 7 + 5 + 7},
		{corner(), box(0, 0, 3, 3), spot(2, 3), 12 + 0 + 4},
		{nil, box(-7, 2, 9, 9), spot(-7, 2), 0},
		// As good: the least X, then the least Y.
		{[]fix.Range{from(0, 0, 4)}, box(-5, -5, 5, 5), spot(-2, 0), 0},
		{[]fix.Range{from(0, 0, 4)}, box(-1, -5, 5, 5), spot(0, -2), 0},
		{[]fix.Range{from(0, 0, 4)}, box(-1, -1, 5, 5), spot(0, 2), 0},
		{[]fix.Range{from(0, 0, 25)}, box(-4, -5, 5, 5), spot(-4, -3), 0},
		{[]fix.Range{from(0, 0, 25)}, box(-4, -2, 5, 5), spot(-4, 3), 0},
		{[]fix.Range{from(0, 0, 3)}, box(-5, -5, 5, 5), spot(-2, 0), 1},
		{[]fix.Range{from(api.MaxPlace, 0, 0)}, box(-api.MaxPlace, 0, -api.MaxPlace+9, 0), spot(-api.MaxPlace+9, 0), (1<<25 - 9) * (1<<25 - 9)},
		{slices.Repeat([]fix.Range{from(-api.MaxPlace, api.MaxPlace, farthest)}, api.MaxSeen), box(api.MaxPlace-3, -api.MaxPlace, api.MaxPlace, -api.MaxPlace+3), spot(api.MaxPlace, -api.MaxPlace), api.MaxSeen << 51},
	} {
		if at, miss, err := fix.Nearest(c.l, c.in); at != c.at || miss != c.miss || err != nil {
			t.Error(c, at, miss, err)
		}
		if !fix.Proved(c.l, c.in, c.at, c.miss) || fix.Proved(c.l, c.in, c.at, c.miss+1) || fix.Proved(c.l, c.in, c.at, c.miss-1) {
			t.Error(c, "Proved")
		}
	}
}

// points of a box, the least X first.
func points(in api.Box) []api.Spot {
	var out []api.Spot
	for x := in.Low.X; x <= in.High.X; x++ {
		for y := in.Low.Y; y <= in.High.Y; y++ {
			out = append(out, spot(x, y))
		}
	}
	return out
}

// P83, P84: of boxes of all shapes; as good points are proved, all others are not.
func TestNearestOfAll(t *testing.T) {
	r := rand.New(rand.NewSource(83))
	several := 0
	for _, l := range samples(83) {
		low := sample(r, 1, []int{3, 200, api.MaxPlace - 9}[r.Intn(3)], 0)[0].From
		in := box(low.X, low.Y, low.X+r.Intn(9), low.Y+r.Intn(9))
		all := points(in)
		best := all[0]
		for _, p := range all {
			if missOf(l, p).Cmp(missOf(l, best)) < 0 {
				best = p
			}
		}
		least := missOf(l, best)
		if at, miss, err := fix.Nearest(l, in); at != best || number(miss).Cmp(least) != 0 || err != nil {
			t.Error(l, in, at, miss, err, best, least)
		}
		for _, p := range all {
			miss := missOf(l, p)
			good := miss.Cmp(least) == 0
			if good && p != best {
				several++
			}
			if fix.Proved(l, in, p, int(miss.Int64())) != good || fix.Proved(l, in, p, int(least.Int64())) != good {
				t.Error(l, in, p, miss, least)
			}
		}
	}
	if several < 20 {
		t.Error("samples are too much alike", several)
	}
}

// refused: neither is a point told of such a box, nor proved, though it lies in it.
func refused(t *testing.T, in api.Box, want error) {
	t.Helper()
	for _, l := range [][]fix.Range{nil, corner()} {
		if at, miss, err := fix.Nearest(l, in); at != (api.Spot{}) || miss != 0 || err != want {
			t.Error(l, in, at, miss, err, want)
		}
		for _, p := range []api.Spot{in.Low, in.High, spot(in.Low.X, in.High.Y), spot(3, 4)} {
			if fix.Proved(l, in, p, 0) {
				t.Error(l, in, p)
			}
		}
	}
}

// P83: ErrShape of boxes that are none, however many points they would have.
func TestNearestShape(t *testing.T) {
	for _, in := range []api.Box{box(1, 0, 0, 0), box(0, 1, 0, 0), box(1, 1, 0, 0), box(4, 5, 3, 4), box(0, 5, 9, 4), box(5, 0, 4, 9), box(api.MaxPlace, 0, -api.MaxPlace, 0)} {
		refused(t, in, api.ErrShape)
	}
	for _, n := range []int{api.MaxPlace + 1, math.MaxInt} {
		for _, in := range []api.Box{box(0, 0, n, 0), box(0, 0, 0, n), box(n, 0, n, 0), box(0, n, 0, n), box(n, n, n, n)} {
			refused(t, in, api.ErrShape)
		}
	}
	for _, n := range []int{-api.MaxPlace - 1, math.MinInt, math.MinInt + 1} {
		for _, in := range []api.Box{box(n, 0, 0, 0), box(0, n, 0, 0), box(n, 0, n, 0), box(0, n, 0, n), box(n, n, math.MaxInt, math.MaxInt)} {
			refused(t, in, api.ErrShape)
		}
	}
}

// P83: up to 100000 points.
func TestNearestBound(t *testing.T) {
	for _, in := range []api.Box{box(0, 0, 100000, 0), box(0, -100000, 0, 0), box(0, 0, 10, 9090+1), box(-5, -5, 311, 311), box(-api.MaxPlace, -api.MaxPlace, api.MaxPlace, api.MaxPlace), box(-api.MaxPlace, 0, api.MaxPlace, 0), box(0, -api.MaxPlace, 0, api.MaxPlace)} {
		refused(t, in, api.ErrBound)
	}
	for _, in := range []api.Box{box(3, 4, 100002, 4), box(3, 4, 3, 100003), box(-96, -495, 3, 504), box(-api.MaxPlace, 4, 3-api.MaxPlace, 25003)} {
		at, miss, err := fix.Nearest(corner(), in)
		want, _ := fix.Miss(corner(), at)
		if err != nil || miss != want || in.Low.X >= -96 && (at != spot(3, 4) || miss != 0) || !fix.Proved(corner(), in, at, miss) {
			t.Error(in, at, miss, err)
		}
	}
	// The greatest one, with the most ranges.
	many := slices.Repeat([]fix.Range{from(9, 9, 0), from(9, 9, 1)}, api.MaxSeen/2)
	if at, miss, err := fix.Nearest(many, box(-90, -490, 9, 509)); at != spot(8, 9) || miss != api.MaxSeen/2 || err != nil {
		t.Error(at, miss, err)
	}
}

// P84: what does not lie in the box is not proved, though it has that miss; nor is another miss.
func TestProved(t *testing.T) {
	for _, c := range []struct {
		l    []fix.Range
		in   api.Box
		at   api.Spot
		miss int
		want bool
	}{
		{corner(), box(-5, -5, 9, 9), spot(3, 4), 0, true},
		{corner(), box(-5, -5, 9, 9), spot(3, 4), 1, false},
		{corner(), box(-5, -5, 9, 9), spot(3, 4), -1, false},
		{corner(), box(-5, -5, 9, 9), spot(3, 5), 0, false},
		{corner(), box(-5, -5, 9, 9), spot(3, 5), 9 + 9 + 7, false},
		{corner(), box(4, 4, 7, 7), spot(4, 4), 19, true},
		{corner(), box(4, 4, 7, 7), spot(3, 4), 0, false},
		{corner(), box(4, 4, 7, 7), spot(3, 4), 19, false},
		// As good as the one that is told.
		{[]fix.Range{from(0, 0, 4)}, box(-5, -5, 5, 5), spot(0, 2), 0, true},
		{[]fix.Range{from(0, 0, 4)}, box(-1, -1, 5, 5), spot(2, 0), 0, true},
		// As good, beside the box, on each side.
		{[]fix.Range{from(0, 0, 25)}, box(-4, -4, 4, 4), spot(5, 0), 0, false},
		{[]fix.Range{from(0, 0, 25)}, box(-4, -4, 4, 4), spot(-5, 0), 0, false},
		{[]fix.Range{from(0, 0, 25)}, box(-4, -4, 4, 4), spot(0, 5), 0, false},
		{[]fix.Range{from(0, 0, 25)}, box(-4, -4, 4, 4), spot(0, -5), 0, false},
		{nil, box(1, 1, 3, 3), spot(2, 2), 0, true},
		{nil, box(1, 1, 3, 3), spot(2, 2), 1, false},
		{nil, box(1, 1, 3, 3), spot(2, 4), 0, false},
		{nil, box(1, 1, 3, 3), spot(math.MaxInt, math.MinInt), 0, false},
		{corner(), box(1, 1, 3, 3), spot(math.MinInt, math.MaxInt), math.MinInt, false},
	} {
		if got := fix.Proved(c.l, c.in, c.at, c.miss); got != c.want {
			t.Error(c, got)
		}
	}
}
