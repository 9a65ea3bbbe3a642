package field

import "mercator/api"

// Mean around each cell.
func Mean(a api.Raster, reach int) (api.Raster, error) {
	if err := reached(a, reach); err != nil {
		return api.Raster{}, err
	}
	s, out := sumsOf(a), blank(a.Wide, a.High)
	for row := range a.High {
		top, bottom := around(row, reach, a.High)
		for col := range a.Wide {
			left, right := around(col, reach, a.Wide)
			out.L[row*a.Wide+col] = s.mean(block{top, bottom, left, right})
		}
	}
	return out, nil
}

// Most around each cell.
func Most(a api.Raster, reach int) (api.Raster, error) { return picked(a, reach, greater) }

// Least around each cell.
func Least(a api.Raster, reach int) (api.Raster, error) { return picked(a, reach, lesser) }

// Open: what is narrow and high goes.
func Open(a api.Raster, reach int) (api.Raster, error) {
	low, err := Least(a, reach)
	if err != nil {
		return api.Raster{}, err
	}
	return Most(low, reach)
}

// Close: what is narrow and low goes.
func Close(a api.Raster, reach int) (api.Raster, error) {
	high, err := Most(a, reach)
	if err != nil {
		return api.Raster{}, err
	}
	return Least(high, reach)
}

// picked of the cells around each one: first along its row, then, of what comes, along its column, which is the same as of all at once.
func picked(a api.Raster, reach int, pick func(a, b int) int) (api.Raster, error) {
	if err := reached(a, reach); err != nil {
		return api.Raster{}, err
	}
	along, out := make([]int, len(a.L)), blank(a.Wide, a.High)
	for row := range a.High {
		line{first: row * a.Wide, step: 1, many: a.Wide}.pick(a.L, along, reach, pick)
	}
	for col := range a.Wide {
		line{first: col, step: a.Wide, many: a.High}.pick(along, out.L, reach, pick)
	}
	return out, nil
}

// line of cells: a row or a column.
type line struct{ first, step, many int }

// pick, for each cell of a line, one of those around it on the line.
func (l line) pick(from, to []int, reach int, pick func(a, b int) int) {
	for n := range l.many {
		low, high := around(n, reach, l.many)
		best := from[l.first+low*l.step]
		for other := low + 1; other < high; other++ {
			best = pick(best, from[l.first+other*l.step])
		}
		to[l.first+n*l.step] = best
	}
}

// around a cell of a line of so many: from low on, up to high, which is not in it.
func around(n, reach, many int) (low, high int) {
	return max(n-reach, 0), min(n+reach+1, many)
}

// reached: is the raster valid, and can the reach be one?
func reached(a api.Raster, reach int) error {
	if err := Valid(a); err != nil {
		return err
	}
	if !within(reach, 0, api.MaxSide) {
		return api.ErrShape
	}
	return nil
}
