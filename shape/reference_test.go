package shape_test

import (
	"cmp"
	"math"
	"math/rand"
	"slices"

	"mercator/api"
	"mercator/shape"
)

// at: a point.
func at(x, y int) api.Spot { return api.Spot{X: x, Y: y} }

// line of points, told by pairs of numbers.
func line(n ...int) []api.Spot {
	var out []api.Spot
	for i := 0; i+1 < len(n); i += 2 {
		out = append(out, at(n[i], n[i+1]))
	}
	return out
}

// arcs of a map.
func arcs(l ...[]api.Spot) shape.Map { return shape.Map{Arcs: l} }

// copied map, in memory of its own.
func copied(m shape.Map) shape.Map {
	var out shape.Map
	for _, arc := range m.Arcs {
		out.Arcs = append(out.Arcs, slices.Clone(arc))
	}
	return out
}

// same maps? An empty list is as good as none.
func same(a, b shape.Map) bool {
	return slices.EqualFunc(a.Arcs, b.Arcs, func(a, b []api.Spot) bool { return slices.Equal(a, b) })
}

// less, dot, cross: points as arrows.
func less(a, b api.Spot) api.Spot { return at(a.X-b.X, a.Y-b.Y) }
func dot(a, b api.Spot) int       { return a.X*b.X + a.Y*b.Y }
func cross(a, b api.Spot) int     { return a.X*b.Y - a.Y*b.X }

// size of a triangle: twice its area.
func size(a, b, c api.Spot) int {
	n := cross(less(b, a), less(c, a))
	return max(n, -n)
}

// What two pieces have in common: nothing, one point that is an end of both, more.
const (
	nothing = iota
	anEnd
	more
)

// common: what the pieces from a to b and from c to d have in common, by the equations of their points.
func common(a, b, c, d api.Spot) int {
	u, v, w := less(b, a), less(d, c), less(c, a)
	if n := cross(u, v); n != 0 {
		s, t := cross(w, v), cross(w, u) // a + s/n u = c + t/n v
		if n < 0 {
			n, s, t = -n, -s, -t
		}
		if s < 0 || s > n || t < 0 || t > n {
			return nothing
		}
		if (s == 0 || s == n) && (t == 0 || t == n) {
			return anEnd
		}
		return more
	}
	if cross(u, w) != 0 {
		return nothing
	}
	s, t := dot(w, u), dot(less(d, a), u) // where c and d are, from 0 (a) to the square of u (b)
	low, high := max(0, min(s, t)), min(dot(u, u), max(s, t))
	switch {
	case low > high:
		return nothing
	case low == high:
		return anEnd
	}
	return more
}

// on the piece from a to b lies a point?
func on(a, b, p api.Spot) bool {
	u, v := less(b, a), less(p, a)
	return cross(u, v) == 0 && dot(u, v) >= 0 && dot(u, v) <= dot(u, u)
}

// in a triangle lies a point? What it makes with the edges is no more than the triangle.
func in(a, b, c, p api.Spot) bool {
	if size(a, b, c) > 0 {
		return size(p, a, b)+size(p, b, c)+size(p, c, a) == size(a, b, c)
	}
	return on(a, b, p) || on(b, c, p) || on(c, a, p)
}

// simpleOf a ring: all pairs of its edges, as they are told.
func simpleOf(l []api.Spot) bool {
	n := len(l)
	for i := range n {
		for j := range i {
			most := nothing
			if i == j+1 || j == 0 && i == n-1 {
				most = anEnd
			}
			if common(l[i], l[(i+1)%n], l[j], l[(j+1)%n]) > most {
				return false
			}
		}
	}
	return true
}

// whereOf a point: as whereOf hangs on no direction, the line goes to the north.
func whereOf(l []api.Spot, p api.Spot) int {
	side := -1
	for i, a := range l {
		b := l[(i+1)%len(l)]
		if on(a, b, p) {
			return 0
		}
		if a.X > b.X {
			a, b = b, a
		}
		if a.X <= p.X && p.X < b.X && (b.Y-a.Y)*(p.X-a.X) > (p.Y-a.Y)*(b.X-a.X) {
			side = -side
		}
	}
	return side
}

// validOf a map, rule by rule; bounds are left out.
func validOf(m shape.Map) error {
	type dot struct{ arc, at int }
	var inner, all []dot
	for n, arc := range m.Arcs {
		if len(arc) < 2 || arc[0] == arc[len(arc)-1] && len(arc) < 4 {
			return api.ErrShape
		}
		for i := range arc {
			if i > 0 && arc[i] == arc[i-1] {
				return api.ErrShape
			}
			all = append(all, dot{n, i})
			if i > 0 && i+1 < len(arc) {
				inner = append(inner, dot{n, i})
			}
		}
	}
	for _, d := range inner {
		for _, e := range all {
			if d != e && m.Arcs[d.arc][d.at] == m.Arcs[e.arc][e.at] {
				return api.ErrOrder
			}
		}
	}
	for i, d := range all {
		for _, e := range all[:i] {
			p, q := m.Arcs[d.arc], m.Arcs[e.arc]
			if d.at > 0 && e.at > 0 && common(p[d.at-1], p[d.at], q[e.at-1], q[e.at]) == more {
				return api.ErrOrder
			}
		}
	}
	return nil
}

// along a way: its points, in the order in which it is gone.
func along(m shape.Map, way int) []api.Spot {
	if way > 0 {
		return m.Arcs[way-1]
	}
	l := slices.Clone(m.Arcs[-way-1])
	slices.Reverse(l)
	return l
}

// facesOf a map: around each node the ways that go out are sorted by angle, so its points must not be far away.
func facesOf(m shape.Map) [][]int {
	var order []int
	around := map[api.Spot][]int{}
	for n := range m.Arcs {
		for _, way := range []int{n + 1, -n - 1} {
			order = append(order, way)
			node := along(m, way)[0]
			around[node] = append(around[node], way)
		}
	}
	angle := func(way int) float64 {
		l := along(m, way)
		d := less(l[1], l[0])
		return math.Atan2(float64(d.Y), float64(d.X))
	}
	for _, l := range around {
		slices.SortFunc(l, func(a, b int) int { return cmp.Compare(angle(b), angle(a)) }) // with the clock
	}
	next := map[int]int{}
	for _, l := range around {
		for i, way := range l {
			next[-way] = l[(i+1)%len(l)]
		}
	}
	var out [][]int
	done := map[int]bool{}
	for _, first := range order {
		if done[first] {
			continue
		}
		round := []int{first}
		for way := next[first]; way != first; way = next[way] {
			round = append(round, way)
		}
		for _, way := range round {
			done[way] = true
		}
		out = append(out, round)
	}
	return out
}

// sizesOf faces: points one behind the other.
func sizesOf(m shape.Map) []int {
	var out []int
	for _, round := range facesOf(m) {
		var l []api.Spot
		for _, way := range round {
			l = append(l, along(m, way)...)
		}
		sum := 0
		for i, p := range l {
			sum += cross(p, l[(i+1)%len(l)])
		}
		out = append(out, sum)
	}
	return out
}

// why a point stays, and how often it was for that alone; how many have gone, and how many of these in a later round than the first one.
type why struct{ great, few, full, wrong, gone, late int }

// thinOf a map, word by word.
func thinOf(m shape.Map, most int, count *why) shape.Map {
	m = copied(m)
	for round := 0; ; round++ {
		before := count.gone
		for n := range m.Arcs {
			for i := 1; i+1 < len(m.Arcs[n]); {
				if goes(m, n, i, most, count) {
					m.Arcs[n] = slices.Delete(m.Arcs[n], i, i+1)
				} else {
					i++
				}
			}
		}
		if count.gone == before {
			return m
		}
		if round > 0 {
			count.late += count.gone - before
		}
	}
}

// goes: is a point left out?
func goes(m shape.Map, n, i, most int, count *why) bool {
	arc := m.Arcs[n]
	a, b, c := arc[i-1], arc[i], arc[i+1]
	great := size(a, b, c) > most
	few := len(arc) == 2 || len(arc) == 4 && arc[0] == arc[3]
	full := false
	for _, l := range m.Arcs {
		for _, p := range l {
			full = full || p != a && p != b && p != c && in(a, b, c, p)
		}
	}
	without := copied(m)
	without.Arcs[n] = slices.Delete(without.Arcs[n], i, i+1)
	wrong := validOf(without) != nil
	switch {
	case !great && !few && !full && !wrong:
		count.gone++
		return true
	case !few && !full && !wrong:
		count.great++
	case !great && !full && few:
		count.few++
	case !great && !few && !wrong:
		count.full++
	case !great && !few && !full:
		count.wrong++
	}
	return false
}

// pick of points by chance: so many in a row, so far from each other; and how often, of four, an arc begins or ends where one was.
type pick struct {
	r               *rand.Rand
	wide, far, join int
}

func (p pick) spot() api.Spot {
	low := -(p.wide - 1) / 2 * p.far
	return at(low+p.r.Intn(p.wide)*p.far, low+p.r.Intn(p.wide)*p.far)
}

// walk: points one behind the other, some near the one ahead; its ends are nodes that were there, or not, or one.
func (p pick) walk(nodes []api.Spot, many int) []api.Spot {
	var out []api.Spot
	for i := range many {
		s := p.spot()
		if i > 0 && p.r.Intn(3) > 0 {
			s = at(out[i-1].X+(p.r.Intn(5)-2)*p.far, out[i-1].Y+(p.r.Intn(5)-2)*p.far)
		}
		if len(nodes) > 0 && (i == 0 || i == many-1) && p.r.Intn(4) < p.join {
			s = nodes[p.r.Intn(len(nodes))]
		}
		out = append(out, s)
	}
	if many > 3 && p.r.Intn(4) == 0 {
		out[many-1] = out[0]
	}
	return out
}

// plan: a map to which arcs are added as long as it is valid.
func (p pick) plan(tries, longest int) shape.Map {
	var m shape.Map
	var nodes []api.Spot
	for range tries {
		arc := p.walk(nodes, 2+p.r.Intn(longest-1))
		wider := shape.Map{Arcs: append(slices.Clone(m.Arcs), arc)}
		if validOf(wider) == nil {
			m = wider
			nodes = append(nodes, arc[0], arc[len(arc)-1])
		}
	}
	return m
}

// cut: inner points more in the middle of pieces, so that triangles are flat.
func (p pick) cut(m shape.Map) shape.Map {
	var out shape.Map
	for _, arc := range m.Arcs {
		l := []api.Spot{arc[0]}
		for i := 1; i < len(arc); i++ {
			if d := less(arc[i], arc[i-1]); d.X%2 == 0 && d.Y%2 == 0 && p.r.Intn(3) == 0 {
				l = append(l, at(arc[i-1].X+d.X/2, arc[i-1].Y+d.Y/2))
			}
			l = append(l, arc[i])
		}
		out.Arcs = append(out.Arcs, l)
	}
	return out
}

// plans of many kinds: sparse and dense, of long arcs and of short ones, of one piece and of many.
func plans(seed int64, many int) []shape.Map {
	r := rand.New(rand.NewSource(seed))
	var out []shape.Map
	for range many {
		for _, wide := range []int{3, 5, 9, 17} {
			for _, longest := range []int{2, 4, 9} {
				p := pick{r, wide, 1, r.Intn(5)}
				out = append(out, p.cut(p.plan(10+r.Intn(40), longest)))
			}
		}
	}
	return out
}
