package contour

import (
	"cmp"
	"slices"

	"mercator/api"
	"mercator/field"
	"mercator/grain"
)

// Inside of a closed line.
func Inside(a api.Raster, l Line) ([]int, error) {
	if err := field.Valid(a); err != nil {
		return nil, err
	}
	spans, err := inside(a, l)
	if err != nil {
		return nil, err
	}
	var out []int
	for _, s := range spans {
		for cell := s.first; cell <= s.last; cell++ {
			out = append(out, cell)
		}
	}
	return out, nil
}

// Nest of lines.
func Nest(a api.Raster, l []Line) ([]int, error) {
	if err := field.Valid(a); err != nil {
		return nil, err
	}
	var closed []area
	for n, line := range l {
		if !line.Closed {
			continue
		}
		spans, err := inside(a, line)
		if err != nil {
			return nil, err
		}
		closed = append(closed, areaOf(n, spans))
	}
	nests := slices.Repeat([]int{-1}, len(l))
	for n, in := range around(len(a.L), closed) {
		nests[closed[n].line] = in
	}
	return nests, nil
}

// span of cells in one row.
type span struct{ first, last int }

// area inside of a line of a list.
type area struct {
	line, cells int
	spans       []span
}

// areaOf a line.
func areaOf(line int, spans []span) area {
	cells := 0
	for _, s := range spans {
		cells += s.last - s.first + 1
	}
	return area{line, cells, spans}
}

// around each area: the line of the least one that has all of it and more; -1: there is none. Lines never cross, so of two areas with a common cell the one with more cells has all of the other one, and as many cells are the same cells. So the greatest ones are laid down first, and where an area comes to lie, what it lies in is on top.
func around(cells int, areas []area) []int {
	order := make([]int, len(areas))
	for n := range order {
		order[n] = n
	}
	slices.SortStableFunc(order, func(a, b int) int { return cmp.Compare(areas[b].cells, areas[a].cells) })
	out, top := make([]int, len(areas)), slices.Repeat([]int{-1}, cells)
	for _, n := range order {
		under := top[areas[n].spans[0].first]
		if under >= 0 && areas[under].cells == areas[n].cells { // the first one of equal ones stays on top
			out[n] = out[under]
			continue
		}
		out[n] = -1
		if under >= 0 {
			out[n] = areas[under].line
		}
		lay(top, areas[n].spans, n)
	}
	return out
}

// lay a number on cells.
func lay(top []int, spans []span, n int) {
	for _, s := range spans {
		for cell := s.first; cell <= s.last; cell++ {
			top[cell] = n
		}
	}
}

// inside of a closed line, rising. A row comes in from the rim, and each edge of it that the line crosses leads in or out: the cells between the first and the second one are inside, those between the third and the fourth, and so on.
func inside(a api.Raster, l Line) ([]span, error) {
	if !closedOn(a, l) {
		return nil, api.ErrShape
	}
	var gates []int
	for _, p := range l.Points {
		if p.B == p.A+1 {
			gates = append(gates, p.A)
		}
	}
	slices.Sort(gates)
	var out []span
	for n := 1; n < len(gates); n += 2 {
		out = append(out, span{gates[n-1] + 1, gates[n]})
	}
	return out, nil
}

// closedOn a raster: is it a closed line of one of its levels, just as Lines tells it?
func closedOn(a api.Raster, l Line) bool {
	if !l.Closed || len(l.Points) == 0 || !isEdge(a, l.first()) {
		return false
	}
	level, ok := levelOf(a, l.Points[0])
	if !ok {
		return false
	}
	g, first := ground{a, level}, l.first()
	e := first
	for n, p := range l.Points {
		if p != g.point(e) || n > 0 && first.compare(e) >= 0 { // the first edge is the least one, and no line comes round twice
			return false
		}
		if e, ok = g.onward(e); !ok {
			return false
		}
	}
	return e == first
}

// isEdge of a triangle of a raster? (Of a raster without triangles, cells side by side pass; no line is closed there.)
func isEdge(a api.Raster, e edge) bool {
	if !within(e.a, 0, len(a.L)-1) || !within(e.b, 0, len(a.L)-1) {
		return false
	}
	east, south := e.b%a.Wide-e.a%a.Wide, e.b/a.Wide-e.a/a.Wide
	return within(east, 0, 1) && within(south, 0, 1) && e.a != e.b
}

// levelOf a point on an edge of a raster: the whole height beneath it; false: no point of a level has such a part. A part that comes out again at this level is that of an edge which it crosses.
func levelOf(a api.Raster, p Point) (int, bool) {
	if !within(p.Part.Den, 1, 4*api.MaxHigh) || !within(p.Part.Num, 1, p.Part.Den) {
		return 0, false
	}
	from, to := a.L[p.A], a.L[p.B]
	high, err := grain.Make(from*p.Part.Den+p.Part.Num*(to-from), p.Part.Den)
	if err != nil {
		return 0, false
	}
	level, err := grain.Floor(high)
	return level, err == nil
}
