package contour

import (
	"cmp"
	"slices"

	"mercator/api"
	"mercator/grain"
)

// ground that is held against a level.
type ground struct {
	api.Raster
	level int
}

// edge of a triangle: two cells, the lesser number first.
type edge struct{ a, b int }

// edgeOf two cells.
func edgeOf(a, b int) edge { return edge{min(a, b), max(a, b)} }

// compare edges by their cells.
func (e edge) compare(other edge) int {
	return cmp.Or(cmp.Compare(e.a, other.a), cmp.Compare(e.b, other.b))
}

// piece of a line, in one triangle: the edge it goes to; goes is false at the rim, where no triangle is ahead.
type piece struct {
	to   edge
	goes bool
}

// lines of the level.
func (g ground) lines() []Line {
	edges := g.crossed()
	pieces := make(map[edge]piece, len(edges))
	for _, e := range edges {
		to, goes := g.onward(e)
		pieces[e] = piece{to, goes}
	}
	var out []Line
	for _, e := range edges { // open ones first: what they leave is closed, and the first edge of each that is left is its least one
		if g.begins(e) {
			out = append(out, g.walk(pieces, e))
		}
	}
	for _, e := range edges {
		if _, left := pieces[e]; left {
			out = append(out, g.walk(pieces, e))
		}
	}
	slices.SortFunc(out, func(a, b Line) int { return a.first().compare(b.first()) })
	return out
}

// first edge of a line that has points.
func (l Line) first() edge { return edge{l.Points[0].A, l.Points[0].B} }

// walk along a line from its first edge, and take its pieces away. It is closed where it comes to a piece that is gone, which can only be its first one.
func (g ground) walk(pieces map[edge]piece, e edge) Line {
	var points []Point
	for {
		p, left := pieces[e]
		if !left {
			return Line{Closed: true, Points: points}
		}
		delete(pieces, e)
		points = append(points, g.point(e))
		if !p.goes {
			return Line{Points: points}
		}
		e = p.to
	}
}

// crossed edges, rising.
func (g ground) crossed() []edge {
	if g.Wide < 2 || g.High < 2 { // no triangle, so no edge
		return nil
	}
	var out []edge
	for cell := range g.L {
		above := g.above(cell)
		east, south := cell%g.Wide < g.Wide-1, cell/g.Wide < g.High-1
		if east && g.above(cell+1) != above {
			out = append(out, edge{cell, cell + 1})
		}
		if south && g.above(cell+g.Wide) != above {
			out = append(out, edge{cell, cell + g.Wide})
		}
		if east && south && g.above(cell+g.Wide+1) != above {
			out = append(out, edge{cell, cell + g.Wide + 1})
		}
	}
	return out
}

// above the level?
func (g ground) above(cell int) bool { return g.L[cell] > g.level }

// sides of a crossed edge: the cell above the level, the other one.
func (g ground) sides(e edge) (high, low int) {
	if g.above(e.a) {
		return e.a, e.b
	}
	return e.b, e.a
}

// onward from a crossed edge, with the higher ground to the left hand: the next one; false: the line ends at the rim.
func (g ground) onward(e edge) (edge, bool) {
	high, low := g.sides(e)
	third, ok := g.left(high, low)
	if !ok {
		return edge{}, false
	}
	if g.above(third) {
		return edgeOf(third, low), true
	}
	return edgeOf(high, third), true
}

// begins a line at a crossed edge? No triangle lies behind it.
func (g ground) begins(e edge) bool {
	high, low := g.sides(e)
	_, behind := g.left(low, high)
	return !behind
}

// left of the way along an edge: the third cell of the triangle there, if there is one. Of the six edges around a cell the next one against the clock leads to it; that turn takes a step (east, south) to (south, south - east).
func (g ground) left(from, to int) (int, bool) {
	col, row := from%g.Wide, from/g.Wide
	east, south := to%g.Wide-col, to/g.Wide-row
	col, row = col+south, row+south-east
	return row*g.Wide + col, within(col, 0, g.Wide-1) && within(row, 0, g.High-1)
}

// point of a crossed edge. Its fraction cannot fail: twice the heights are far below what one may have.
func (g ground) point(e edge) Point {
	from, to := g.L[e.a], g.L[e.b]
	part, _ := grain.Make(2*g.level+1-2*from, 2*(to-from))
	return Point{A: e.a, B: e.b, Part: part}
}
