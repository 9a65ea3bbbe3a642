package fix_test

import (
	"math/big"
	"math/rand"
	"testing"

	"mercator/api"
	"mercator/fix"
)

// both ways round, it is the same.
func both(t *testing.T, a, b fix.Range, n int, chord api.Frac, want error) {
	t.Helper()
	for _, c := range [][2]fix.Range{{a, b}, {b, a}} {
		if got, long, err := fix.Between(c[0], c[1]); got != n || long != chord || err != want {
			t.Error(c, got, long, err, n, chord, want)
		}
	}
}

// P85: rows that were worked out by hand.
func TestBetween(t *testing.T) {
	zero := frac(0, 1)
	for _, c := range []struct {
		a, b  fix.Range
		n     int
		chord api.Frac
	}{
		{from(0, 0, 25), from(6, 0, 25), 2, frac(64, 1)},
		{from(0, 0, 25), from(0, -8, 25), 2, frac(36, 1)},
		{from(0, 0, 3), from(1, 2, 3), 2, frac(7, 1)},
		// The chord may be the whole width of a circle, or lie beyond its middle.
		{from(0, 0, 25), from(4, 0, 9), 2, frac(36, 1)},
		{from(0, 0, 25), from(3, 0, 10), 2, frac(36, 1)},
		{from(0, 0, 1), from(3, 0, 5), 2, frac(11, 9)},
		{from(0, 0, 2), from(1, 1, 1), 2, frac(7, 2)},
		// Beside each other: far, next to touching, touching.
		{from(0, 0, 4), from(6, 0, 9), 0, zero},
		{from(0, 0, 4), from(5, 0, 9), 1, zero},
		{from(0, 0, 4), from(3, 4, 9), 1, zero},
		{from(0, 0, 2), from(3, 3, 8), 1, zero},
		{from(0, 0, 2), from(3, 3, 7), 0, zero},
		{from(0, 0, 2), from(3, 3, 9), 2, frac(23, 18)},
		// One in the other.
		{from(0, 0, 100), from(1, 0, 4), 0, zero},
		{from(0, 0, 36), from(3, 0, 9), 1, zero},
		{from(0, 0, 36), from(3, 0, 8), 0, zero},
		{from(0, 0, 18), from(-1, -1, 8), 1, zero},
		// Around one point.
		{from(2, 3, 5), from(2, 3, 5), -1, zero},
		{from(2, 3, 0), from(2, 3, 0), 1, zero},
		{from(2, 3, 0), from(2, 3, 1), 0, zero},
		{from(2, 3, 5), from(2, 3, 6), 0, zero},
		{from(api.MaxPlace, -api.MaxPlace, farthest), from(api.MaxPlace, -api.MaxPlace, farthest), -1, zero},
		// Circles of radius 0 are points.
		{from(0, 0, 0), from(3, 4, 25), 1, zero},
		{from(0, 0, 0), from(3, 4, 24), 0, zero},
		{from(0, 0, 0), from(3, 4, 26), 0, zero},
		{from(0, 0, 0), from(3, 4, 0), 0, zero},
		// The greatest ones.
		{from(-api.MaxPlace, -api.MaxPlace, farthest), from(api.MaxPlace, api.MaxPlace, farthest), 2, frac(7<<51, 1)},
		{from(-api.MaxPlace, -api.MaxPlace, 1<<51), from(api.MaxPlace, api.MaxPlace, 0), 1, zero},
		{from(-api.MaxPlace, -api.MaxPlace, 1<<49), from(api.MaxPlace, api.MaxPlace, 1<<49), 1, zero},
		{from(-api.MaxPlace, -api.MaxPlace, 1<<49), from(api.MaxPlace, api.MaxPlace, 1<<49-1), 0, zero},
		{from(-api.MaxPlace, -api.MaxPlace, 0), from(api.MaxPlace, api.MaxPlace, farthest), 0, zero},
	} {
		both(t, c.a, c.b, c.n, c.chord, nil)
	}
}

// meets: by Heron's rule: of the triangle of both points and one where the circles meet, sixteen times the square of its area is told by the squares of its sides; and half the chord is its height.
func meets(a, b fix.Range) (int, *big.Rat) {
	x, y := less(number(a.From.X), number(b.From.X)), less(number(a.From.Y), number(b.From.Y))
	far := new(big.Int).Add(times(x, x), times(y, y))
	q, r := number(a.Square), number(b.Square)
	sum := new(big.Int).Add(far, new(big.Int).Add(q, r))
	area := times(sum, sum)
	for _, side := range []*big.Int{far, q, r} {
		area.Sub(area, times(number(2), times(side, side)))
	}
	switch {
	case far.Sign() == 0 && q.Cmp(r) == 0 && q.Sign() != 0:
		return -1, new(big.Rat)
	case far.Sign() == 0 && q.Cmp(r) != 0 || area.Sign() < 0:
		return 0, new(big.Rat)
	case area.Sign() == 0:
		return 1, new(big.Rat)
	}
	return 2, new(big.Rat).SetFrac(area, far)
}

// P85: exactly, whatever is too long on the way; ErrBound, if the square of the chord is not right.
func TestBetweenIsExact(t *testing.T) {
	r := rand.New(rand.NewSource(85))
	count := map[int]int{}
	long := 0
	for _, place := range []int{1, 3, 20, 1 << 15, 1 << 16, 1 << 20, api.MaxPlace} {
		for _, square := range []int{1, 4, 30, 4 * place, 4 * place * place, farthest} {
			for range 300 {
				l := sample(r, 2, place, square)
				n, chord := meets(l[0], l[1])
				want, ok := right(chord)
				count[n]++
				if !ok {
					long++
					both(t, l[0], l[1], 0, api.Frac{}, api.ErrBound)
					continue
				}
				both(t, l[0], l[1], n, want, nil)
			}
		}
	}
	if count[-1] < 20 || count[0] < 20 || count[1] < 20 || count[2] < 20 || long < 20 || long > count[2]-20 {
		t.Error("samples are too much alike", count, long)
	}
}

// P85: circles of whole radiuses around points that are a whole number apart.
func TestBetweenWhole(t *testing.T) {
	for _, way := range []api.Spot{spot(1, 0), spot(0, -1), spot(3, 4), spot(-5, 12), spot(-1<<19*3, -1<<19*4)} {
		unit := max(way.X, -way.X)
		switch unit {
		case 0:
			unit = 1
		case 3, 3 << 19:
			unit = unit / 3 * 5
		case 5:
			unit = 13
		}
		for far := 1; far <= 5; far++ {
			for a := range 9 {
				for b := range 9 {
					want := 0
					if far < a+b && far > a-b && far > b-a {
						want = 2
					} else if far == a+b || far == a-b || far == b-a {
						want = 1
					}
					got, _, err := fix.Between(from(0, 0, a*a*unit*unit), from(far*way.X, far*way.Y, b*b*unit*unit))
					if got != want || err != nil {
						t.Error(way, far, a, b, got, want, err)
					}
				}
			}
		}
	}
}

// P85: on both sides of what is right; where there is no chord, nothing is too long.
func TestBetweenBound(t *testing.T) {
	both(t, from(0, 0, 3948361317146739), from(16, 6, 3948361317146974), 2, frac(api.MaxPart-1, 292), nil)
	both(t, from(0, 0, 4486075893411856), from(16, 1, 4486075893412105), 2, frac(api.MaxPart, 257), nil)
	both(t, from(0, 0, 4486075893411857), from(16, 1, 4486075893412081), 0, api.Frac{}, api.ErrBound) // (MaxPart + 3) / 257
	both(t, from(0, 0, farthest), from(api.MaxPlace, 3, farthest-1), 0, api.Frac{}, api.ErrBound)
	both(t, from(0, 0, farthest), from(3, 5, 7), 0, frac(0, 1), nil)
	both(t, from(-api.MaxPlace, 0, 3), from(api.MaxPlace, 1, 5), 0, frac(0, 1), nil)
}

// P85: ErrShape, as of Valid, wherever it is; ahead of all that circles can be.
func TestBetweenShape(t *testing.T) {
	for _, one := range misshapen() {
		both(t, one, from(0, 0, 5), 0, api.Frac{}, api.ErrShape)
		both(t, one, one, 0, api.Frac{}, api.ErrShape)
	}
}
