package shape_test

import (
	"math"
	"reflect"
	"slices"
	"sync"
	"testing"

	"mercator/api"
	"mercator/shape"
)

// wrongMap and the error that is told of it.
type wrongMap struct {
	m   shape.Map
	err error
}

// wrongMaps: what no map is, and what is one at the very edge of it.
func wrongMaps() []wrongMap {
	great := func(p api.Spot) shape.Map { return arcs(line(0, 0, 1, 1), []api.Spot{at(5, 5), p}) }
	tie := line(0, 0, 4, 4)
	star := func(many int) shape.Map {
		var m shape.Map
		for i := range many {
			m.Arcs = append(m.Arcs, line(0, 0, 100, i))
		}
		return m
	}
	return []wrongMap{
		{shape.Map{}, nil},
		{shape.Map{Arcs: [][]api.Spot{}}, nil},
		// Bounds, ahead of all that is wrong beside.
		{star(api.MaxArcs), nil},
		{star(api.MaxArcs + 1), api.ErrBound},
		{shape.Map{Arcs: make([][]api.Spot, api.MaxArcs+1)}, api.ErrBound},
		{arcs(teeth(api.MaxList)), nil},
		{arcs(teeth(api.MaxList + 1)), api.ErrBound},
		{arcs(teeth(api.MaxList-2), line(-5, -5, -6, -6)), nil},
		{arcs(teeth(api.MaxList-1), line(-5, -5, -6, -6)), api.ErrBound},
		{arcs(make([]api.Spot, api.MaxList+1)), api.ErrBound},
		{arcs(nil, slices.Repeat([]api.Spot{at(far+1, 0)}, api.MaxList+1)), api.ErrBound},
		// What is no arc, ahead of what crosses.
		{arcs(nil), api.ErrShape},
		{shape.Map{Arcs: make([][]api.Spot, api.MaxArcs)}, api.ErrShape},
		{arcs(line(7, 7)), api.ErrShape},
		{arcs(line(7, 7, 7, 7)), api.ErrShape},
		{arcs(line(0, 0, 4, 4, 4, 4, 5, 0)), api.ErrShape},
		{arcs(line(0, 0, 4, 4, 0, 0)), api.ErrShape},
		{arcs(line(0, 0, 4, 4), line(0, 4, 4, 0), nil), api.ErrShape},
		{arcs(line(0, 0, 4, 4), line(0, 4, 4, 0), line(8, 8, 9, 9, 8, 8)), api.ErrShape},
		{great(at(far, -far)), nil},
		{great(at(far+1, 0)), api.ErrShape},
		{great(at(0, far+1)), api.ErrShape},
		{great(at(-far-1, 0)), api.ErrShape},
		{great(at(0, -far-1)), api.ErrShape},
		{great(at(math.MaxInt, math.MinInt)), api.ErrShape},
		{great(at(math.MinInt, math.MaxInt)), api.ErrShape},
		{arcs(tie, line(0, 4, 4, 0), []api.Spot{at(far+1, 0), at(1, 0)}), api.ErrShape},
		// Arcs whose ends are one.
		{arcs(line(0, 0, 4, 0, 0, 4, 0, 0)), nil},
		{arcs(line(0, 0, 4, 0, 8, 0, 0, 0)), api.ErrOrder},
		{arcs(line(0, 0, 4, 0, 4, 4, 0, 4, 0, 0)), nil},
		{arcs(line(0, 0, 4, 0, 0, 4, 4, 4, 0, 0)), api.ErrOrder},
		{arcs(line(0, 0, 4, 0, 4, 4, 0, 0, 0, 4)), api.ErrOrder}, // its first point is an inner one, too
		{arcs(line(0, 0, 0, 4, 4, 4, 4, 0, 0, 4)), api.ErrOrder},
		{arcs(line(0, 0, 4, 0, 4, 4, 0, 0), line(0, 0, -4, 0, -4, -4, 0, 0)), nil},
		{arcs(line(0, 0, 9, 0, 9, 9, 0, 0), line(0, 0, 6, 2, 6, 4, 0, 0)), nil},
		// Pieces that have a point in common.
		{arcs(tie, line(4, 4, 8, 8)), nil},
		{arcs(tie, line(4, 4, 8, 8), line(4, 4, 4, 0), line(0, 0, 0, 4)), nil},
		{arcs(tie, line(0, 4, 4, 0)), api.ErrOrder},
		{arcs(tie, line(0, 3, 4, 0)), api.ErrOrder}, // where no whole point is
		{arcs(tie, line(2, 2, 4, 0)), api.ErrOrder}, // an end on a piece
		{arcs(line(2, 2, 4, 0), tie), api.ErrOrder},
		{arcs(line(4, 0, 2, 2), tie), api.ErrOrder},
		{arcs(tie, tie), api.ErrOrder},
		{arcs(tie, line(4, 4, 0, 0)), api.ErrOrder},
		{arcs(tie, line(0, 0, 2, 2)), api.ErrOrder}, // a common end, and more
		{arcs(tie, line(2, 2, 0, 0)), api.ErrOrder},
		{arcs(tie, line(0, 0, 9, 9)), api.ErrOrder},
		{arcs(tie, line(1, 1, 3, 3)), api.ErrOrder},
		{arcs(tie, line(3, 3, 6, 6)), api.ErrOrder},
		{arcs(tie, line(5, 5, 6, 6)), nil},
		{arcs(tie, line(1, 0, 5, 4)), nil},
		{arcs(line(0, 0, 4, 0), line(2, 0, 6, 0)), api.ErrOrder},
		{arcs(line(0, 0, 0, 4), line(0, 6, 0, 3)), api.ErrOrder},
		{arcs(line(0, 0, 4, 0), line(5, 0, 6, 0)), nil},
		{arcs(line(0, 0, 4, 0), line(2, 1, 2, 5)), nil},
		{arcs(line(0, 0, 8, 8, 9, 0, 1, 8)), api.ErrOrder}, // of one arc, that are no neighbours
		{arcs(line(0, 0, 4, 0, 2, 0)), api.ErrOrder},       // of one arc, that are neighbours
		{arcs(line(0, 0, 4, 0, -2, 0)), api.ErrOrder},
		{arcs(line(0, 0, 4, 0, 4, 4, 2, 0)), api.ErrOrder}, // the last point on the first piece
		{arcs(line(0, 0, 1, 0, 2, 0, 3, 0)), nil},
		// Inner points.
		{arcs(line(0, 0, 2, 0, 4, 0), line(2, 0, 2, 4)), api.ErrOrder},
		{arcs(line(2, 0, 2, 4), line(0, 0, 2, 0, 4, 0)), api.ErrOrder},
		{arcs(line(0, 0, 2, 2, 4, 0), line(0, 4, 2, 2, 4, 4)), api.ErrOrder},
		{arcs(line(0, 0, 2, 2, 4, 0), line(0, 4, 2, 2)), api.ErrOrder},
		{arcs(line(0, 0, 2, 2, 4, 0), line(2, 2, 4, 4, 0, 4, 2, 2)), api.ErrOrder},
		{arcs(line(0, 0, 2, 2, 4, 0, 4, 4, 2, 2, 0, 4)), api.ErrOrder},
		{arcs(line(0, 0, 2, 2, 4, 0), line(0, 4, 2, 3, 4, 4)), nil},
		// As great as may be: beside each other by the least that there is.
		{arcs(line(-far, -far, far, far), line(-far, far, far, -far)), api.ErrOrder},
		{arcs(line(-far, -far, far, far), line(0, 0, far, -far)), api.ErrOrder},
		{arcs(line(-far, -far, far, far-1), line(-far, -far, far-1, far-2)), nil},
		{arcs(line(-far, -far, far, far-1), line(0, 0, far, far)), nil},
		{arcs(line(-far, -far, far, far-1), line(0, -1, far, far)), api.ErrOrder},
		{arcs(line(-far, -far, far, far-1), line(0, -1, far, -far)), nil},
	}
}

// P151 to P154: what is wrong with a map, by all calls, and nothing else is told then.
func TestWrongMaps(t *testing.T) {
	for i, c := range wrongMaps() {
		if err := shape.Valid(c.m); err != c.err {
			t.Error("Valid", i, err, c.err)
		}
		if l, err := shape.Faces(c.m); err != c.err || err != nil && len(l) > 0 {
			t.Error("Faces", i, l, err)
		}
		if l, err := shape.Sizes(c.m); err != c.err || err != nil && len(l) > 0 {
			t.Error("Sizes", i, l, err)
		}
		if m, err := shape.Thin(c.m, 0); err != c.err || err != nil && len(m.Arcs) > 0 {
			t.Error("Thin", i, len(m.Arcs), err)
		}
		for _, most := range []int{-1, math.MinInt} {
			want := c.err
			if want == nil {
				want = api.ErrShape
			}
			if m, err := shape.Thin(c.m, most); err != want || len(m.Arcs) > 0 {
				t.Error("Thin", i, most, len(m.Arcs), err)
			}
		}
	}
}

// P151: samples: two arcs, or three, of few places.
func TestValidSamples(t *testing.T) {
	count := map[error]int{}
	for _, m := range plans(152, 12) {
		if err := shape.Valid(m); err != nil {
			t.Fatal(m, err)
		}
	}
	for i, l := range rings(153, 30000) {
		cut := i % (len(l) - 1)
		m := arcs(l[:cut+1], l[cut:])
		switch {
		case i%3 == 1:
			m = arcs(append(slices.Clone(l), l[0]))
		case i%3 == 2:
			m = arcs(l[:2], l[len(l)-2:], l[1:])
		}
		want := validOf(m)
		if err := shape.Valid(m); err != want {
			t.Fatal(m, err, want)
		}
		count[want]++
	}
	if count[nil] < 3000 || count[api.ErrShape] < 1000 || count[api.ErrOrder] < 3000 {
		t.Error("samples are too much alike", count)
	}
}

// P152, P153: worked out by hand.
func TestFaces(t *testing.T) {
	x := 2 * far
	for _, c := range []struct {
		m     shape.Map
		faces [][]int
		sizes []int
	}{
		{shape.Map{}, nil, nil},
		{arcs(line(3, 4, 5, 6)), [][]int{{1, -1}}, []int{0}},
		{arcs(line(3, 4, 9, 9, 5, 6)), [][]int{{1, -1}}, []int{0}},
		// A ring: to its left is what it encloses.
		{arcs(line(0, 0, 4, 0, 0, 4, 0, 0)), [][]int{{1}, {-1}}, []int{16, -16}},
		{arcs(line(0, 0, 0, 4, 4, 0, 0, 0)), [][]int{{1}, {-1}}, []int{-16, 16}},
		// A ring of two arcs, of three.
		{arcs(line(0, 0, 4, 0), line(0, 0, 0, 4, 4, 0)), [][]int{{1, -2}, {-1, 2}}, []int{16, -16}},
		{arcs(line(0, 0, 4, 0), line(4, 0, 0, 4), line(0, 4, 0, 0)), [][]int{{1, 2, 3}, {-1, -3, -2}}, []int{16, -16}},
		// A dead end in it, one out of it, both.
		{arcs(line(0, 0, 9, 0, 0, 9, 0, 0), line(0, 0, 2, 2)), [][]int{{1, 2, -2}, {-1}}, []int{81, -81}},
		{arcs(line(0, 0, 9, 0, 0, 9, 0, 0), line(-2, -2, 0, 0)), [][]int{{1}, {-1, -2, 2}}, []int{81, -81}},
		{arcs(line(0, 0, 9, 0, 0, 9, 0, 0), line(0, 0, 2, 2), line(0, 0, -2, -2)), [][]int{{1, 2, -2}, {-1, 3, -3}}, []int{81, -81}},
		// Two rings at one node: beside each other, one in the other one.
		{arcs(line(0, 0, 4, 0, 4, 4, 0, 0), line(0, 0, -4, 0, -4, -4, 0, 0)), [][]int{{1}, {-1, -2}, {2}}, []int{16, -32, 16}},
		{arcs(line(0, 0, 9, 0, 0, 9, 0, 0), line(0, 0, 2, 1, 1, 2, 0, 0)), [][]int{{1, -2}, {-1}, {2}}, []int{78, -81, 3}},
		// Apart from each other: rounds do not know of each other.
		{arcs(line(0, 0, 9, 0, 0, 9, 0, 0), line(1, 1, 2, 1, 1, 2, 1, 1)), [][]int{{1}, {-1}, {2}, {-2}}, []int{81, -81, 1, -1}},
		// A letter H and a comb: all sides of a tree are one face.
		{arcs(line(0, 0, 0, 2), line(0, 2, 0, 4), line(0, 2, 3, 2), line(3, 0, 3, 2), line(3, 2, 3, 4)), [][]int{{1, 2, -2, 3, 5, -5, -4, 4, -3, -1}}, []int{0}},
		// Eight ways out of a node, with the clock from the east on.
		{arcs(line(0, 0, 1, 0), line(0, 0, 1, 1), line(0, 0, 0, 1), line(0, 0, -1, 1), line(0, 0, -1, 0), line(0, 0, -1, -1), line(0, 0, 0, -1), line(0, 0, 1, -1)),
			[][]int{{1, -1, 8, -8, 7, -7, 6, -6, 5, -5, 4, -4, 3, -3, 2, -2}}, []int{0}},
		// A square and its diagonals, with a node in the middle.
		{arcs(line(0, 0, 2, 0), line(2, 0, 2, 2), line(2, 2, 0, 2), line(0, 2, 0, 0), line(1, 1, 0, 0), line(1, 1, 2, 0), line(1, 1, 2, 2), line(1, 1, 0, 2)),
			[][]int{{1, -6, 5}, {-1, -4, -3, -2}, {2, -7, 6}, {3, -8, 7}, {4, -5, 8}}, []int{2, -8, 2, 2, 2}},
		// Ways that are all but one: the steeper one comes later with the clock.
		{arcs(line(-far, -far, far, far-1), line(-far, -far, far-1, far-2), line(-far, -far, far, far)), [][]int{{1, -1, 2, -2, 3, -3}}, []int{0}},
		{arcs(line(far, far, -far, 1-far), line(far, far, 1-far, 2-far), line(far, far, -far, -far)), [][]int{{1, -1, 2, -2, 3, -3}}, []int{0}},
		{arcs(line(-far, far, far, 1-far), line(-far, far, far-1, 2-far), line(-far, far, far, -far)), [][]int{{1, -1, 3, -3, 2, -2}}, []int{0}},
		{arcs(line(-far, -far, far, -far, far, far, -far, far, -far, -far)), [][]int{{1}, {-1}}, []int{2 * x * x, -2 * x * x}},
	} {
		faces, err := shape.Faces(c.m)
		if err != nil || !slices.EqualFunc(faces, c.faces, slices.Equal[[]int]) {
			t.Error("Faces", c.m, faces, c.faces, err)
		}
		sizes, err := shape.Sizes(c.m)
		if err != nil || !slices.Equal(sizes, c.sizes) {
			t.Error("Sizes", c.m, sizes, c.sizes, err)
		}
	}
}

// parted: the connected pieces of a map, and its nodes.
func parted(m shape.Map) (pieces, nodes int) {
	group := map[api.Spot]int{}
	for i, arc := range m.Arcs {
		a, b := arc[0], arc[len(arc)-1]
		for _, p := range []api.Spot{a, b} {
			if _, ok := group[p]; !ok {
				group[p] = i + len(m.Arcs)*len(group)
			}
		}
		for p, old := range group {
			if now := group[a]; p != b && old == group[b] && old != now {
				group[p] = now
			}
		}
		group[b] = group[a]
	}
	kinds := map[int]bool{}
	for _, g := range group {
		kinds[g] = true
	}
	return len(kinds), len(group)
}

// told faces and sizes, where nothing is wrong.
func told(t *testing.T, m shape.Map) (faces [][]int, sizes []int) {
	t.Helper()
	faces, err := shape.Faces(m)
	sizes, bad := shape.Sizes(m)
	if err != nil || bad != nil || len(sizes) != len(faces) {
		t.Fatal(m, faces, sizes, err, bad)
	}
	return faces, sizes
}

// P152, P153, P155: samples against ways that are sorted by their angles; nodes, less arcs, and faces are twice the pieces, of which each has one round about it.
func TestFacesSamples(t *testing.T) {
	var many, inner, loose [6]int
	for _, m := range plans(154, 60) {
		faces, sizes := told(t, m)
		if want := facesOf(m); !slices.EqualFunc(faces, want, slices.Equal[[]int]) {
			t.Fatal(m, faces, want)
		}
		if want := sizesOf(m); !slices.Equal(sizes, want) {
			t.Fatal(m, sizes, want)
		}
		pieces, nodes := parted(m)
		if nodes-len(m.Arcs)+len(faces) != 2*pieces {
			t.Fatal(m, nodes, faces, pieces)
		}
		about, sum := 0, 0
		for _, n := range sizes {
			if n <= 0 {
				about++
			}
			sum += n
		}
		if about != pieces || sum != 0 {
			t.Fatal(m, sizes, pieces)
		}
		many[min(len(m.Arcs)/3, 5)]++
		inner[min(len(faces)-about, 5)]++
		loose[min(pieces, 5)]++
	}
	if slices.Min(many[:]) < 30 || slices.Min(inner[:]) < 30 || slices.Min(loose[1:]) < 30 {
		t.Error("samples are too much alike", many, inner, loose)
	}
}

// bundle: as many arcs as may be, one above the other, of as many points as may be, from one node to another one.
func bundle() shape.Map {
	var m shape.Map
	for i := range api.MaxArcs {
		arc := []api.Spot{at(-far, 0)}
		for k := range api.MaxList/api.MaxArcs - 2 {
			arc = append(arc, at(k, 3*i+k%2))
		}
		m.Arcs = append(m.Arcs, append(arc, at(far, 0)))
	}
	return m
}

// P152, P153: as many arcs, as many points as may be.
func TestFacesGreatest(t *testing.T) {
	m := bundle()
	want := [][]int{{1, -2}, {-1, api.MaxArcs}}
	for i := 2; i < api.MaxArcs; i++ {
		want = append(want, []int{i, -i - 1})
	}
	faces, sizes := told(t, m)
	if !reflect.DeepEqual(faces, want) || !slices.Equal(sizes, sizesOf(m)) {
		t.Error(faces, sizes)
	}
}

// P3, P4: maps are only read, nothing behind the length of their lists is; what is answered is new, list by list.
func TestMapsMemory(t *testing.T) {
	first := append(line(0, 0, 2, 1, 4, 0), at(math.MaxInt, 0), at(0, 0))
	second := append(line(4, 0, 4, 4, 0, 0), at(math.MinInt, 0), at(0, 0))
	whole := [][]api.Spot{first[:3], second[:3], nil, line(1, 1)}
	m := shape.Map{Arcs: whole[:2]}
	held := [][]api.Spot{slices.Clone(first), slices.Clone(second)}
	for range 2 {
		faces, sizes := told(t, m)
		if want := [][]int{{1, 2}, {-1, -2}}; !reflect.DeepEqual(faces, want) || !slices.Equal(sizes, []int{12, -12}) {
			t.Fatal(faces, sizes)
		}
		for i := range faces {
			faces[i] = append(faces[i], 7)
			faces[i][0] = 9
			sizes[i] = 9
		}
		if faces[1][1] != -2 || faces[1][2] != 7 || len(faces[0]) != 3 || faces[0][1] != 2 {
			t.Fatal(faces)
		}
		thin, err := shape.Thin(m, 1000)
		if err != nil || !same(thin, arcs(line(0, 0, 4, 0), line(4, 0, 4, 4, 0, 0))) {
			t.Fatal(thin, err)
		}
		thin.Arcs[0] = append(thin.Arcs[0], at(5, 5))
		thin.Arcs[0][0], thin.Arcs[0][1] = at(8, 8), at(8, 8)
		if !slices.Equal(thin.Arcs[1], line(4, 0, 4, 4, 0, 0)) {
			t.Fatal(thin)
		}
	}
	if !slices.Equal(first, held[0]) || !slices.Equal(second, held[1]) || whole[2] != nil || !slices.Equal(whole[3], line(1, 1)) {
		t.Error(whole, first, second)
	}
}

// P2: the same is answered, however many ask at a time.
func TestMapsSideBySide(t *testing.T) {
	var busy sync.WaitGroup
	for _, m := range plans(155, 1) {
		faces, sizes := told(t, m)
		thin, err := shape.Thin(m, 9)
		if err != nil {
			t.Fatal(m, err)
		}
		for range 4 {
			busy.Go(func() {
				f, err := shape.Faces(m)
				s, bad := shape.Sizes(m)
				x, worse := shape.Thin(m, 9)
				if err != nil || bad != nil || worse != nil || !slices.EqualFunc(f, faces, slices.Equal[[]int]) || !slices.Equal(s, sizes) || !same(x, thin) {
					t.Error(m, f, s, x, err, bad, worse)
				}
			})
		}
	}
	busy.Wait()
}
