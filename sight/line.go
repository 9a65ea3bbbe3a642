package sight

import (
	"iter"

	"mercator/api"
	"mercator/grain"
	"mercator/relief"
)

// line of a look over the ground.
type line struct {
	ground      api.Raster
	col, row    int // where it begins
	east, south int // so many columns and rows it goes
	eye, mark   int // heights of its ends
}

// lineOf a look that is right.
func lineOf(a api.Raster, l Look) line {
	col, row := l.From%a.Wide, l.From/a.Wide
	return line{
		ground: a,
		col:    col, row: row,
		east: l.To%a.Wide - col, south: l.To/a.Wide - row,
		eye: a.L[l.From] + l.Eye, mark: a.L[l.To] + l.Up,
	}
}

// stops of a line, each of them k of n parts of the way, in no order, some of them several times. What it runs along, it does not come over. Between them line and ground go evenly, so where it is not below the ground at any of them (nor at its ends, as nothing is looked at from below the ground), it nowhere is.
func (l line) stops() iter.Seq2[int, int] {
	return func(yield func(k, n int) bool) {
		for _, n := range [3]int{size(l.east), size(l.south), size(l.east - l.south)} {
			for k := 1; k < n; k++ {
				if !yield(k, n) {
					return
				}
			}
		}
	}
}

// lack of height, n times, at k of n parts of the way: so much is the line below the ground.
func (l line) lack(k, n int) int {
	ground, _ := relief.Times(l.ground, n*l.col+k*l.east, n*l.row+k*l.south, n) // it stays between two cells, so it is on the ground
	return ground - (n-k)*l.eye - k*l.mark
}

// free: nowhere below the ground?
func (l line) free() bool {
	for k, n := range l.stops() {
		if l.lack(k, n) > 0 {
			return false
		}
	}
	return true
}

// need of the mark to be higher. That lifts the line, n times, at k of n parts of the way by k times as much.
func (l line) need() (api.Frac, error) {
	num, den := 0, 1
	for k, n := range l.stops() {
		if lack := l.lack(k, n); lack*den > num*k {
			num, den = lack, k
		}
	}
	return grain.Make(num, den)
}

// size of a number, without its sign.
func size(n int) int { return max(n, -n) }
