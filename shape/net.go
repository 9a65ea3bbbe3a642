package shape

import "mercator/api"

// net of arcs. Its ways are numbered from 0 on in the order 1, -1, 2, -2, ..: so each has its way back beside it.
type net [][]api.Spot

// told: the number by which a way is known outside.
func told(way int) int {
	if way%2 == 0 {
		return way/2 + 1
	}
	return -(way/2 + 1)
}

// out: the first piece of a way, out of its node.
func (n net) out(way int) piece {
	arc := n[way/2]
	if way%2 == 0 {
		return piece{arc[0], arc[1]}
	}
	return piece{arc[len(arc)-1], arc[len(arc)-2]}
}

// next of a way, at the node that it comes to.
func (n net) next(way int) int {
	back := way ^ 1
	came := n.out(back)
	best, first := back, came.to
	for other := range 2 * len(n) {
		if p := n.out(other); other != back && p.from == came.from && (best == back || sooner(came, p.to, first)) {
			best, first = other, p.to
		}
	}
	return best
}

// sooner: does an arrow that turns with the clock, from a piece on, point to s ahead of r? Seen from the piece's node, none of s, r and the piece's other end hides another one.
func sooner(p piece, s, r api.Spot) bool {
	late, later := turn(p.from, p.to, s) > 0, turn(p.from, p.to, r) > 0 // more than half of a turn away
	if late != later {
		return later
	}
	return turn(p.from, s, r) < 0
}

// rounds of ways, each of which is the next one of the way ahead of it.
func (n net) rounds() [][]int {
	var out [][]int
	seen := make([]bool, 2*len(n))
	for first := range seen {
		var round []int
		for way := first; !seen[way]; way = n.next(way) { // each way is the next one of just one way, so it comes back to the first one
			seen[way] = true
			round = append(round, told(way))
		}
		if len(round) > 0 {
			out = append(out, round)
		}
	}
	return out
}
