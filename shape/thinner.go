package shape

import (
	"slices"

	"mercator/api"
)

// thinner arcs, from round to round. A point keeps its number, whichever go.
type thinner struct {
	most  int
	spots []api.Spot
	gone  []bool
	clear []int   // of each point: so many, from the first one on, are known not to lie in its triangle; as none comes back, no round has to look at them again
	arcs  [][]int // the points that are left
}

// thinnerOf arcs: all of their points are left as yet.
func thinnerOf(arcs [][]api.Spot, most int) *thinner {
	t := &thinner{most: most}
	for _, arc := range arcs {
		var line []int
		for _, p := range arc {
			line = append(line, len(t.spots))
			t.spots = append(t.spots, p)
		}
		t.arcs = append(t.arcs, line)
	}
	t.gone = make([]bool, len(t.spots))
	t.clear = make([]int, len(t.spots))
	return t
}

// round over all arcs: has a point gone?
func (t *thinner) round() bool {
	some := false
	for arc := range t.arcs {
		for at := 1; at+1 < len(t.arcs[arc]); {
			if t.free(t.arcs[arc], at) {
				t.drop(arc, at)
				some = true
			} else {
				at++
			}
		}
	}
	return some
}

// free to go: an inner point of an arc?
func (t *thinner) free(line []int, at int) bool {
	a, b, c := t.spots[line[at-1]], t.spots[line[at]], t.spots[line[at+1]]
	size := turn(a, b, c)
	if max(size, -size) > t.most || t.closed(line) && len(line) == 4 {
		return false
	}
	return t.empty(line[at], a, b, c) && !t.joined(piece{a, c})
}

// closed: are the ends of an arc one?
func (t *thinner) closed(line []int) bool {
	return t.spots[line[0]] == t.spots[line[len(line)-1]]
}

// empty triangle of a point and its neighbours: no other point is in it?
func (t *thinner) empty(point int, a, b, c api.Spot) bool {
	for n := t.clear[point]; n < len(t.spots); n++ {
		if s := t.spots[n]; !t.gone[n] && s != a && s != b && s != c && inside(a, b, c, s) {
			t.clear[point] = n
			return false
		}
	}
	t.clear[point] = len(t.spots)
	return true
}

// joined by an arc: the ends of a piece that is to come? Where the triangle of a point that goes is empty, nothing else makes the map wrong: what crosses the piece would come out of the triangle over the pieces that were there, and what lies along it has an end in it, or is the same. Both ends are points of two arcs then, so they are nodes.
func (t *thinner) joined(p piece) bool {
	return slices.ContainsFunc(t.arcs, func(line []int) bool {
		return len(line) == 2 && p.twin(piece{t.spots[line[0]], t.spots[line[1]]})
	})
}

// drop a point of an arc; its neighbours have other triangles then.
func (t *thinner) drop(arc, at int) {
	line := t.arcs[arc]
	t.gone[line[at]] = true
	t.clear[line[at-1]], t.clear[line[at+1]] = 0, 0
	t.arcs[arc] = slices.Delete(line, at, at+1)
}

// left: the arcs as they are now.
func (t *thinner) left() [][]api.Spot {
	var out [][]api.Spot
	for _, line := range t.arcs {
		var arc []api.Spot
		for _, n := range line {
			arc = append(arc, t.spots[n])
		}
		out = append(out, arc)
	}
	return out
}

// inside a triangle, or on its edges? One that is flat has its longest edge alone.
func inside(a, b, c, s api.Spot) bool {
	u, v, w := turn(a, b, s), turn(b, c, s), turn(c, a, s)
	if min(u, v, w) < 0 && max(u, v, w) > 0 {
		return false
	}
	return min(a.X, b.X, c.X) <= s.X && s.X <= max(a.X, b.X, c.X) && min(a.Y, b.Y, c.Y) <= s.Y && s.Y <= max(a.Y, b.Y, c.Y)
}
