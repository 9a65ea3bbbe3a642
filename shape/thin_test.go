package shape_test

import (
	"math"
	"math/rand"
	"slices"
	"testing"

	"mercator/api"
	"mercator/shape"
)

// thin map, where nothing is wrong.
func thin(t *testing.T, m shape.Map, most int) shape.Map {
	t.Helper()
	out, err := shape.Thin(m, most)
	if err != nil {
		t.Fatal(m, most, err)
	}
	return out
}

// P154: worked out by hand.
func TestThin(t *testing.T) {
	bow := line(0, 0, 5, 10, 10, 0)         // a size of 100
	poke := line(4, -3, 5, 2, 6, -3)        // 10, and its point lies in the bow
	hook := line(0, 0, 10, 10, 20, 0, 5, 2) // 200, in which its end lies, and 130
	zigzag := line(0, 0, 1, 1, 2, 0, 3, 1, 4, 0)
	arch := line(0, 0, 2, 4, 4, 0)
	square := line(0, 0, 9, 0, 9, 9, 0, 9, 0, 0)
	for i, c := range []struct {
		m    shape.Map
		most int
		want shape.Map
	}{
		{shape.Map{}, 0, shape.Map{}},
		{arcs(line(1, 2, 3, 4)), math.MaxInt, arcs(line(1, 2, 3, 4))},
		// Sizes: at most, whichever way they turn; 0 alone where it is flat.
		{arcs(bow), 99, arcs(bow)},
		{arcs(bow), 100, arcs(line(0, 0, 10, 0))},
		{arcs(line(10, 0, 5, 10, 0, 0)), 99, arcs(line(10, 0, 5, 10, 0, 0))},
		{arcs(line(10, 0, 5, 10, 0, 0)), 100, arcs(line(10, 0, 0, 0))},
		{arcs(line(0, 0, 1, 0, 3, 0, 4, 1)), 0, arcs(line(0, 0, 3, 0, 4, 1))},
		{arcs(line(0, 0, 2, 2, 3, 3, 7, 7)), 0, arcs(line(0, 0, 7, 7))},
		// The next point is looked at beside those that are left.
		{arcs(zigzag), 1, arcs(zigzag)},
		{arcs(zigzag), 2, arcs(line(0, 0, 3, 1, 4, 0))},
		{arcs(zigzag), 3, arcs(line(0, 0, 3, 1, 4, 0))},
		{arcs(zigzag), 4, arcs(line(0, 0, 4, 0))},
		// Points in the triangle, which go in a later round, or in the same one.
		{arcs(bow, poke), 9, arcs(bow, poke)},
		{arcs(bow, poke), 10, arcs(bow, line(4, -3, 6, -3))},
		{arcs(bow, poke), 100, arcs(line(0, 0, 10, 0), line(4, -3, 6, -3))},
		{arcs(poke, bow), 100, arcs(line(4, -3, 6, -3), line(0, 0, 10, 0))},
		{arcs(bow, line(4, -3, 5, 2)), 1000, arcs(bow, line(4, -3, 5, 2))},
		{arcs(hook), 129, arcs(hook)},
		{arcs(hook), 130, arcs(line(0, 0, 5, 2))},
		{arcs(hook), 200, arcs(line(0, 0, 5, 2))},
		// On its edge, beside it, at its corners.
		{arcs(arch, line(2, 0, 2, -3)), 1000, arcs(arch, line(2, 0, 2, -3))},
		{arcs(arch, line(2, -1, 2, -3)), 1000, arcs(line(0, 0, 4, 0), line(2, -1, 2, -3))},
		{arcs(arch, line(5, 0, 7, 0), line(-1, 0, -2, 0)), 1000, arcs(line(0, 0, 4, 0), line(5, 0, 7, 0), line(-1, 0, -2, 0))},
		{arcs(arch, line(0, 0, -3, 0), line(4, 0, 7, 0)), 1000, arcs(line(0, 0, 4, 0), line(0, 0, -3, 0), line(4, 0, 7, 0))},
		{arcs(line(0, 0, 2, 0, 4, 0), line(5, 0, 7, 0), line(0, 0, -3, 0)), 0, arcs(line(0, 0, 4, 0), line(5, 0, 7, 0), line(0, 0, -3, 0))},
		// Four points are left of an arc whose ends are one.
		{arcs(square), math.MaxInt, arcs(line(0, 0, 9, 9, 0, 9, 0, 0))},
		{arcs(line(0, 0, 9, 0, 9, 9, 0, 0)), math.MaxInt, arcs(line(0, 0, 9, 0, 9, 9, 0, 0))},
		{arcs(square, line(6, 1, 8, 1, 8, 3, 6, 1)), math.MaxInt, arcs(line(0, 0, 9, 0, 9, 9, 0, 0), line(6, 1, 8, 1, 8, 3, 6, 1))},
		// It would be the same piece as another one.
		{arcs(arch, line(4, 0, 0, 0)), 1000, arcs(arch, line(4, 0, 0, 0))},
		{arcs(line(0, 0, 4, 0), arch), 1000, arcs(line(0, 0, 4, 0), arch)},
		{arcs(arch, line(4, 0, 2, -4, 0, 0)), 1000, arcs(line(0, 0, 4, 0), line(4, 0, 2, -4, 0, 0))},
		// As great as may be.
		{arcs(line(-far, -far, far, -far, far, far)), 4*far*far - 1, arcs(line(-far, -far, far, -far, far, far))},
		{arcs(line(-far, -far, far, -far, far, far)), 4 * far * far, arcs(line(-far, -far, far, far))},
		{arcs(line(-far, -far, far-1, far-2, far, far-1)), 0, arcs(line(-far, -far, far-1, far-2, far, far-1))},
		{arcs(line(-far, -far, far-1, far-2, far, far-1)), 1, arcs(line(-far, -far, far, far-1))},
	} {
		if got := thin(t, c.m, c.most); !same(got, c.want) {
			t.Error(i, c.m, c.most, got, c.want)
		}
	}
}

// times as great a map.
func times(m shape.Map, n int) shape.Map {
	m = copied(m)
	for _, arc := range m.Arcs {
		for i, p := range arc {
			arc[i] = at(p.X*n, p.Y*n)
		}
	}
	return m
}

// P154, P155: samples against the words of the document; all faces are the same rounds.
func TestThinSamples(t *testing.T) {
	var count why
	r := rand.New(rand.NewSource(156))
	const great = far / 32 // no point of a plan is farther out
	for _, m := range plans(157, 250) {
		for _, most := range []int{0, 1 + r.Intn(4), 5 + r.Intn(20), math.MaxInt} {
			want := thinOf(m, most, &count)
			got := thin(t, m, most)
			if !same(got, want) {
				t.Fatal(m, most, got, want)
			}
			before, _ := told(t, m)
			after, _ := told(t, got)
			if !slices.EqualFunc(before, after, slices.Equal[[]int]) {
				t.Fatal(m, most, got, before, after)
			}
			if again := thin(t, got, most); !same(again, got) {
				t.Fatal(m, most, got, again)
			}
			if most < math.MaxInt {
				most *= great * great
			}
			if got := thin(t, times(m, great), most); !same(got, times(want, great)) {
				t.Fatal(m, most, got, want)
			}
		}
	}
	if count.gone < 3000 || count.great < 3000 || count.few < 300 || count.full < 300 || count.wrong < 300 || count.late < 300 {
		t.Error("samples are too much alike", count)
	}
}

// spiral of so many points, from its outer end on: each corner has all that are farther in in its triangle, or nearly so.
func spiral(many int) []api.Spot {
	l := []api.Spot{at(0, 0)}
	step := [4]api.Spot{at(1, 0), at(0, 1), at(-1, 0), at(0, -1)}
	for i := range many - 1 {
		long := i/2 + 1
		l = append(l, at(l[i].X+step[i%4].X*long, l[i].Y+step[i%4].Y*long))
	}
	slices.Reverse(l)
	return l
}

// P154, P155: it ends, with as many points as may be, of which in each round a few go; and what is left has the same faces.
func TestThinGreatest(t *testing.T) {
	l := spiral(api.MaxList)
	if got := thin(t, arcs(l), math.MaxInt); !same(got, arcs([]api.Spot{l[0], l[len(l)-1]})) {
		t.Error(len(got.Arcs[0]))
	}
	if got := thin(t, arcs(l), 0); !same(got, arcs(l)) {
		t.Error(len(got.Arcs[0]))
	}
	m := bundle()
	got := thin(t, m, math.MaxInt)
	before, _ := told(t, m)
	after, _ := told(t, got)
	if !slices.EqualFunc(before, after, slices.Equal[[]int]) {
		t.Error(after)
	}
	if err := shape.Valid(got); err != nil {
		t.Error(err)
	}
	straight := 0
	for _, arc := range got.Arcs {
		if len(arc) == 2 {
			straight++
		}
	}
	if straight != 1 {
		t.Error(straight)
	}
}
