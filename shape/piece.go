package shape

import "mercator/api"

// piece of a line: from a point to the next one.
type piece struct{ from, to api.Spot }

// piecesOf a line.
func piecesOf(l []api.Spot) []piece {
	var out []piece
	for i := 1; i < len(l); i++ {
		out = append(out, piece{l[i-1], l[i]})
	}
	return out
}

// edges of a ring.
func edges(l []api.Spot) []piece {
	return append(piecesOf(l), piece{l[len(l)-1], l[0]})
}

// swept by an arrow from (0, 0) that goes along the pieces: twice the area, above 0 against the clock.
func swept(l []piece) int {
	sum := 0
	for _, p := range l {
		sum += p.from.X*p.to.Y - p.to.X*p.from.Y
	}
	return sum
}

// turn at a, from b to c: twice the area of the triangle, above 0 against the clock.
func turn(a, b, c api.Spot) int {
	return (b.X-a.X)*(c.Y-a.Y) - (c.X-a.X)*(b.Y-a.Y)
}

// has the piece a point?
func (p piece) has(s api.Spot) bool {
	return turn(p.from, p.to, s) == 0 && p.near(piece{s, s})
}

// holds a point that is not one of the piece's ends?
func (p piece) holds(s api.Spot) bool {
	return s != p.from && s != p.to && p.has(s)
}

// near: have the boxes around two pieces a point in common?
func (p piece) near(q piece) bool {
	return max(p.from.X, p.to.X) >= min(q.from.X, q.to.X) && max(q.from.X, q.to.X) >= min(p.from.X, p.to.X) &&
		max(p.from.Y, p.to.Y) >= min(q.from.Y, q.to.Y) && max(q.from.Y, q.to.Y) >= min(p.from.Y, p.to.Y)
}

// parts: does the line along the piece have one end of another piece on each of its sides?
func (p piece) parts(q piece) bool {
	a, b := turn(p.from, p.to, q.from), turn(p.from, p.to, q.to)
	return a < 0 && b > 0 || a > 0 && b < 0
}

// twin: the same piece, or the same one back?
func (p piece) twin(q piece) bool {
	return p == q || p == piece{q.to, q.from}
}

// eastOf a point, on the point's height, lies the piece? Of its ends the upper one does not count, so that where two pieces meet one of them does.
func (p piece) eastOf(s api.Spot) bool {
	if p.from.Y > p.to.Y {
		p.from, p.to = p.to, p.from
	}
	return p.from.Y <= s.Y && s.Y < p.to.Y && turn(p.from, p.to, s) > 0
}

// meet: have two pieces a point in common that is not an end of both? They cross, or one holds an end of the other one, or all their points are the same.
func meet(p, q piece) bool {
	if !p.near(q) {
		return false
	}
	return p.parts(q) && q.parts(p) || p.holds(q.from) || p.holds(q.to) || q.holds(p.from) || q.holds(p.to) || p.twin(q)
}

// tangled: do any two of the pieces meet?
func tangled(l []piece) bool {
	for i, p := range l {
		for _, q := range l[:i] {
			if meet(p, q) {
				return true
			}
		}
	}
	return false
}
