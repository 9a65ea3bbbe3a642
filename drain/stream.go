package drain

import (
	"slices"

	"mercator/api"
	"mercator/field"
)

// Streams of a raster.
func Streams(a api.Raster, least int) ([][]int, error) {
	s, err := streamsOf(a, least)
	if err != nil {
		return nil, err
	}
	var out [][]int
	for cell := range a.L {
		if s.begins(cell) {
			out = append(out, s.reach(cell))
		}
	}
	return out, nil
}

// Strahler's order of each stream cell.
func Strahler(a api.Raster, least int) ([]int, error) {
	s, err := streamsOf(a, least)
	if err != nil {
		return nil, err
	}
	out, ranks := make([]int, len(a.L)), make([]rank, len(a.L))
	for _, cell := range slices.Backward(s.order) { // a cell comes after all that flow into it
		if !s.isStream[cell] {
			continue
		}
		out[cell] = ranks[cell].order()
		if next, ok := s.next(cell); ok {
			ranks[next] = ranks[next].with(out[cell])
		}
	}
	return out, nil
}

// streams that a flood makes.
type streams struct {
	*flood
	isStream []bool
	inflows  []int // of each cell: how many stream cells flow into it
}

// streamsOf a raster: cells in which at least so much gathers.
func streamsOf(a api.Raster, least int) (streams, error) {
	if err := field.Valid(a); err != nil {
		return streams{}, err
	}
	if least < 1 {
		return streams{}, api.ErrShape
	}
	s := streams{flooded(a), make([]bool, len(a.L)), make([]int, len(a.L))}
	for cell, much := range s.gather(slices.Repeat([]int{1}, len(a.L))) {
		if much < least {
			continue
		}
		s.isStream[cell] = true
		if next, ok := s.next(cell); ok {
			s.inflows[next]++
		}
	}
	return s, nil
}

// begins: is a cell the first one of a reach?
func (s streams) begins(cell int) bool { return s.isStream[cell] && s.inflows[cell] != 1 }

// reach from its first cell on. Where a stream cell flows into gathers no less, so all of them are stream cells.
func (s streams) reach(first int) []int {
	out := []int{first}
	for next, ok := s.next(first); ok; next, ok = s.next(next) {
		out = append(out, next)
		if s.begins(next) {
			break
		}
	}
	return out
}

// rank of a cell: the greatest order of the stream cells that flow into it, and how many of them have it.
type rank struct{ most, many int }

// with one more that flows in.
func (r rank) with(order int) rank {
	switch {
	case order > r.most:
		return rank{order, 1}
	case order == r.most:
		r.many++
	}
	return r
}

// order of the cell.
func (r rank) order() int {
	if r.many == 1 {
		return r.most
	}
	return r.most + 1
}
