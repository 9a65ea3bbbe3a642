package fix_test

import (
	"math"
	"math/rand"
	"slices"
	"testing"

	"mercator/api"
	"mercator/fix"
)

const farthest = 1 << 52

func spot(x, y int) api.Spot { return api.Spot{X: x, Y: y} }

func box(lowX, lowY, highX, highY int) api.Box {
	return api.Box{Low: spot(lowX, lowY), High: spot(highX, highY)}
}

func from(x, y, square int) fix.Range { return fix.Range{From: spot(x, y), Square: square} }

func frac(num, den int) api.Frac { return api.Frac{Num: num, Den: den} }

// corner: three points of which (3, 4) is 5 away.
func corner() []fix.Range { return []fix.Range{from(0, 0, 25), from(6, 0, 25), from(0, 8, 25)} }

// small: a box whose points are all placed, for what is wrong beside it.
func small() api.Box { return box(0, 0, 1, 1) }

// sample: so many ranges, of points and squares that are at most so great.
func sample(r *rand.Rand, many, place, square int) []fix.Range {
	var out []fix.Range
	for range many {
		out = append(out, from(r.Intn(2*place+1)-place, r.Intn(2*place+1)-place, r.Intn(square+1)))
	}
	return out
}

// samples of all sizes, from those with many points on one line to the greatest ones.
func samples(seed int64) [][]fix.Range {
	r := rand.New(rand.NewSource(seed))
	var out [][]fix.Range
	for _, place := range []int{1, 3, 100, 10000, 1 << 20, api.MaxPlace} {
		for _, square := range []int{0, 5, 1 << 20, farthest} {
			for _, many := range []int{0, 1, 2, 3, 4, 5, 6, 10, 30, api.MaxSeen} {
				out = append(out, sample(r, many, place, square))
			}
		}
	}
	return out
}

// wrong: all calls tell that error of such ranges, and nothing beside it.
func wrong(t *testing.T, l []fix.Range, want error) {
	t.Helper()
	if err := fix.Valid(l); err != want {
		t.Error(l, err, want)
	}
	x, y, err := fix.Solve(l)
	miss, other := fix.Miss(l, spot(0, 0))
	if x != (api.Frac{}) || y != (api.Frac{}) || err != want || miss != 0 || other != want {
		t.Error(l, x, y, err, miss, other, want)
	}
	at, miss, err := fix.Nearest(l, small())
	if at != (api.Spot{}) || miss != 0 || err != want || fix.Proved(l, small(), spot(0, 0), 0) {
		t.Error(l, at, miss, err, want)
	}
}

// misshapen: ranges with one thing that is too great, or below 0.
func misshapen() []fix.Range {
	out := []fix.Range{from(0, 0, -1), from(0, 0, math.MinInt), from(0, 0, farthest+1), from(0, 0, math.MaxInt)}
	for _, n := range []int{api.MaxPlace + 1, -api.MaxPlace - 1, math.MaxInt, math.MinInt, math.MinInt + 1} {
		out = append(out, from(n, 0, 5), from(0, n, 5))
	}
	return out
}

// P80: up to MaxSeen ranges.
func TestTooMany(t *testing.T) {
	for _, many := range []int{api.MaxSeen + 1, 1000} {
		wrong(t, make([]fix.Range, many), api.ErrBound)
		wrong(t, slices.Repeat([]fix.Range{from(math.MinInt, math.MaxInt, -1)}, many), api.ErrBound)
	}
	// Ahead of what is wrong of a point or of a box.
	many := make([]fix.Range, api.MaxSeen+1)
	miss, err := fix.Miss(many, spot(math.MinInt, 0))
	at, least, other := fix.Nearest(many, box(1, 0, 0, 0))
	if miss != 0 || err != api.ErrBound || at != (api.Spot{}) || least != 0 || other != api.ErrBound {
		t.Error(miss, err, at, least, other)
	}
}

// P80: what no range is, wherever it stands.
func TestMisshapen(t *testing.T) {
	for _, one := range misshapen() {
		wrong(t, []fix.Range{one}, api.ErrShape)
		for at := range 4 {
			wrong(t, slices.Insert(corner(), at, one), api.ErrShape)
		}
		wrong(t, append(make([]fix.Range, api.MaxSeen-1), one), api.ErrShape)
		// Ahead of a box of too many points.
		if _, _, err := fix.Nearest([]fix.Range{one}, box(0, 0, 1000, 1000)); err != api.ErrShape {
			t.Error(one, err)
		}
	}
}

// P80: the edges that are still valid.
func TestValid(t *testing.T) {
	edges := []fix.Range{{}, from(api.MaxPlace, api.MaxPlace, farthest), from(-api.MaxPlace, -api.MaxPlace, 0), from(api.MaxPlace, -api.MaxPlace, farthest), from(-api.MaxPlace, api.MaxPlace, 1)}
	for _, l := range append(samples(80), nil, edges, corner(), make([]fix.Range, api.MaxSeen), slices.Repeat(edges, api.MaxSeen/len(edges))) {
		if err := fix.Valid(l); err != nil {
			t.Error(l, err)
		}
	}
}

// P4, P3: a list is only read, and nothing behind its length is.
func TestOnlyRead(t *testing.T) {
	l := append(corner(), from(math.MinInt, 7, -7))[:3]
	kept := slices.Clone(l[:4])
	x, y, err := fix.Solve(l)
	if x != frac(3, 1) || y != frac(4, 1) || err != nil || fix.Valid(l) != nil {
		t.Error(x, y, err)
	}
	miss, err := fix.Miss(l, spot(3, 4))
	if at, least, err := fix.Nearest(l, box(0, 0, 9, 9)); at != spot(3, 4) || least != 0 || err != nil {
		t.Error(at, least, err)
	}
	if miss != 0 || err != nil || !fix.Proved(l, box(0, 0, 9, 9), spot(3, 4), 0) || !slices.Equal(l[:4], kept) {
		t.Error(miss, err, l[:4], kept)
	}
}
