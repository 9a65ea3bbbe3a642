package shape_test

import (
	"math"
	"math/rand"
	"slices"
	"testing"

	"mercator/api"
	"mercator/shape"
)

const far = api.MaxPlace

// P150: worked out by hand.
func TestRings(t *testing.T) {
	for _, c := range []struct {
		l      []api.Spot
		area   int
		simple bool
	}{
		{line(0, 0, 3, 0, 0, 2), 6, true},
		{line(0, 0, 0, 2, 3, 0), -6, true},
		{line(-1, -1, 3, -1, 3, 2, -1, 2), 24, true},
		{line(0, 0, 2, 0, 4, 0, 4, 4), 16, true}, // a point within an edge is a corner, too
		{line(0, 0, 1, 1, 2, 2), 0, false},       // flat: the last edge lies on the others
		{line(0, 0, 2, 2, 1, 1), 0, false},
		{line(0, 0, 2, 2, 2, 0, 0, 2), 0, false},               // edges cross
		{line(0, 0, 4, 0, 4, 4, 2, 0), 8, false},               // a corner lies on an edge
		{line(0, 0, 4, 0, 2, 0, 2, 4), 8, false},               // back on the same edge
		{line(0, 0, 2, 0, 2, 4, 2, 0, 4, 0, 4, -2), -8, false}, // there and back
		{line(0, 0, 2, 2, 4, 0, 4, 4, 2, 2, 0, 4), 16, false},  // a corner comes twice
		{line(0, 0, 4, 0, 4, 4, 0, 4, 0, 3, 3, 3, 3, 1, 0, 1), 20, true},
		{line(0, 0, 4, 0, 0, 1, 4, 1), 0, false},
		{line(0, 0, 1, 0, 0, 0, 1, 0), 0, false}, // to and fro: no two neighbours are the same
		{line(-far, -far, far, -far, far, far, -far, far), 8 * far * far, true},
		{line(-far, -far, -far, far, far, far, far, -far), -8 * far * far, true},
		{line(-far, -far, far, far, far-1, far-1), 0, false},
		{line(-far, -far, far, far-1, far-1, far-2), -1, true}, // one part of the least triangle
		{line(-far, -far, far-1, far-2, far, far-1), 1, true},
		{line(-far, -far, far, far-1, far-1, far-2, far, -far), -4*far*far + 4*far - 1, true},
	} {
		area, err := shape.Area(c.l)
		if area != c.area || err != nil {
			t.Error("Area", c.l, area, c.area, err)
		}
		simple, err := shape.Simple(c.l)
		if simple != c.simple || err != nil {
			t.Error("Simple", c.l, simple, err)
		}
	}
}

// P150: worked out by hand: corners, edges, points beside corners and beside edges that lie level.
func TestWhere(t *testing.T) {
	square := line(0, 0, 4, 0, 4, 4, 0, 4)
	steps := line(0, 0, 6, 0, 6, 2, 4, 2, 4, 4, 2, 4, 2, 2, 0, 2)
	cross := line(0, 0, 4, 4, 4, 0, 0, 4)             // two triangles
	twice := line(0, 0, 4, 0, 0, 4, 0, 0, 4, 0, 0, 4) // around twice: no point is inside
	great := line(-far, -far, far, far-1, far-1, far-2)
	for _, c := range []struct {
		l    []api.Spot
		p    api.Spot
		want int
	}{
		{square, at(1, 1), 1}, {square, at(3, 3), 1}, {square, at(0, 0), 0}, {square, at(4, 4), 0}, {square, at(2, 0), 0}, {square, at(2, 4), 0}, {square, at(0, 1), 0}, {square, at(4, 3), 0},
		{square, at(-1, 0), -1}, {square, at(-1, 4), -1}, {square, at(5, 0), -1}, {square, at(5, 4), -1}, {square, at(-1, 2), -1}, {square, at(5, 2), -1}, {square, at(2, -1), -1}, {square, at(2, 5), -1},
		{steps, at(1, 2), 0}, {steps, at(3, 2), 1}, {steps, at(5, 2), 0}, {steps, at(-1, 2), -1}, {steps, at(7, 2), -1}, {steps, at(1, 1), 1}, {steps, at(1, 3), -1}, {steps, at(5, 3), -1}, {steps, at(3, 3), 1}, {steps, at(-1, 0), -1}, {steps, at(-1, 4), -1}, {steps, at(0, 4), -1},
		{cross, at(1, 2), 1}, {cross, at(2, 2), 0}, {cross, at(2, 1), -1}, {cross, at(3, 2), 1}, {cross, at(2, 3), -1}, {cross, at(3, 1), 0}, {cross, at(0, 2), 0}, {cross, at(-1, 2), -1}, {cross, at(5, 2), -1},
		{twice, at(1, 1), -1}, {twice, at(2, 2), 0}, {twice, at(3, 3), -1},
		{great, at(0, 0), -1}, {great, at(0, -1), -1}, {great, at(-far, -far), 0}, {great, at(far, far-1), 0}, {great, at(far, far), -1}, {great, at(-far, far), -1},
		{line(-far, -far, far, far, -far, far), at(0, 0), 0}, {line(-far, -far, far, far, -far, far), at(0, 1), 1}, {line(-far, -far, far, far, -far, far), at(1, 0), -1},
		{line(-far, -far, far, far-1, -far, far), at(0, 0), 1}, {line(-far, -far, far, far-1, -far, far), at(0, -1), -1},
	} {
		for range 2 { // against the clock and with it
			if got, err := shape.Where(c.l, c.p); got != c.want || err != nil {
				t.Error(c.l, c.p, got, c.want, err)
			}
			c.l = slices.Clone(c.l)
			slices.Reverse(c.l)
		}
	}
}

// P150: errors, in their order; nothing else is told with one.
func TestRingsWrong(t *testing.T) {
	long := make([]api.Spot, api.MaxList+1)
	for i := range long {
		long[i] = at(i, i*i%7)
	}
	ringed := func(p api.Spot) []api.Spot { return []api.Spot{at(0, 0), p, at(1, 2)} }
	for _, c := range []struct {
		l   []api.Spot
		err error
	}{
		{nil, api.ErrShape},
		{[]api.Spot{}, api.ErrShape},
		{line(1, 1), api.ErrShape},
		{line(0, 0, 4, 0), api.ErrShape},
		{line(0, 0, 4, 0, 4, 0), api.ErrShape},
		{line(0, 0, 0, 0, 4, 0), api.ErrShape},
		{line(0, 0, 4, 0, 0, 0), api.ErrShape},
		{line(0, 0, 4, 0, 0, 4, 0, 0), api.ErrShape},
		{line(0, 0, 4, 0, 4, 0, 0, 4), api.ErrShape},
		{ringed(at(far+1, 0)), api.ErrShape},
		{ringed(at(-far-1, 0)), api.ErrShape},
		{ringed(at(0, far+1)), api.ErrShape},
		{ringed(at(0, -far-1)), api.ErrShape},
		{ringed(at(math.MaxInt, math.MinInt)), api.ErrShape},
		{ringed(at(math.MinInt, math.MaxInt)), api.ErrShape},
		{[]api.Spot{at(far+1, 0), at(0, 0), at(1, 2)}, api.ErrShape},
		{[]api.Spot{at(0, 0), at(1, 2), at(0, far+1)}, api.ErrShape},
		{long, api.ErrBound},
		{make([]api.Spot, api.MaxList+1), api.ErrBound},
		{slices.Repeat([]api.Spot{at(far+1, 0)}, api.MaxList+1), api.ErrBound},
		{long[:api.MaxList], nil},
	} {
		for _, p := range []api.Spot{at(1, 1), at(far, -far), at(far+1, 0), at(0, -far-1), at(math.MinInt, 0), at(0, math.MaxInt)} {
			want := c.err
			if want == nil && (max(p.X, p.Y) > far || min(p.X, p.Y) < -far) {
				want = api.ErrShape
			}
			if n, err := shape.Where(c.l, p); err != want || err != nil && n != 0 {
				t.Error("Where", len(c.l), p, n, err)
			}
		}
		if n, err := shape.Area(c.l); err != c.err || err != nil && n != 0 {
			t.Error("Area", len(c.l), n, err)
		}
		if ok, err := shape.Simple(c.l); err != c.err || err != nil && ok {
			t.Error("Simple", len(c.l), ok, err)
		}
	}
}

// rings by chance: of few places and of many, such that are simple and such that are not.
func rings(seed int64, many int) [][]api.Spot {
	r := rand.New(rand.NewSource(seed))
	var out [][]api.Spot
	for len(out) < many {
		p := pick{r, []int{3, 5, 9, 33}[r.Intn(4)], []int{1, 1, far / 16}[r.Intn(3)], 0}
		var l []api.Spot
		for range 3 + r.Intn(6) {
			l = append(l, p.spot())
		}
		if l = slices.Compact(l); len(l) > 2 && l[0] != l[len(l)-1] {
			out = append(out, l)
		}
	}
	return out
}

// fan of the triangles from the first point on: as much as the ring, whichever way it goes.
func fan(l []api.Spot) int {
	sum := 0
	for i := 2; i < len(l); i++ {
		sum += cross(less(l[i-1], l[0]), less(l[i], l[0]))
	}
	return sum
}

// P150: samples against the words of the document.
func TestRingSamples(t *testing.T) {
	simples, tangles := 0, 0
	var sides [3]int
	r := rand.New(rand.NewSource(150))
	for _, l := range rings(151, 20000) {
		if area, err := shape.Area(l); area != fan(l) || err != nil {
			t.Fatal("Area", l, area, fan(l), err)
		}
		ok, err := shape.Simple(l)
		if want := simpleOf(l); ok != want || err != nil {
			t.Fatal("Simple", l, ok, err)
		}
		if ok {
			simples++
		} else {
			tangles++
		}
		for range 5 {
			p := at(min(far, (l[0].X+l[1].X+r.Intn(5)-2)/2), min(far, (l[0].Y+l[2].Y+r.Intn(5)-2)/2))
			if side, err := shape.Where(l, p); side != whereOf(l, p) || err != nil {
				t.Fatal("Where", l, p, side, err)
			}
			sides[whereOf(l, p)+1]++
		}
	}
	if simples < 3000 || tangles < 3000 || slices.Min(sides[:]) < 3000 {
		t.Error("samples are too much alike", simples, tangles, sides)
	}
}

// P150: as long as a ring may be, as great as points may be.
func TestRingsGreatest(t *testing.T) {
	l := slices.Repeat(line(-far, -far, far, -far, far, far, -far, far), api.MaxList/4)
	if area, err := shape.Area(l); area != 1000*8*far*far || err != nil {
		t.Error(area, err)
	}
	comb := teeth(api.MaxList)
	if ok, err := shape.Simple(comb); !ok || err != nil {
		t.Error(ok, err)
	}
	if area, err := shape.Area(comb); area != fan(comb) || err != nil {
		t.Error(area, err)
	}
	comb[2] = at(comb[2].X, -far) // one tooth is too long
	if ok, err := shape.Simple(comb); ok || err != nil {
		t.Error(ok, err)
	}
}

// teeth: a ring of so many points, up and down, with a back.
func teeth(many int) []api.Spot {
	var l []api.Spot
	for i := range many - 2 {
		l = append(l, at(i, i%2*far))
	}
	return append(l, at(many, -1), at(-1, -1))
}

// P3, P4: rings are only read, and nothing behind their length is.
func TestRingsMemory(t *testing.T) {
	whole := append(line(0, 0, 4, 0, 4, 4, 0, 4), at(math.MaxInt, math.MinInt), at(0, 0), at(0, 0))
	held := slices.Clone(whole)
	l := whole[:4]
	area, err := shape.Area(l)
	simple, bad := shape.Simple(l)
	side, worse := shape.Where(l, at(1, 1))
	if area != 32 || !simple || side != 1 || err != nil || bad != nil || worse != nil || !slices.Equal(whole, held) {
		t.Error(area, simple, side, err, bad, worse, whole)
	}
}
