package basin

import (
	"slices"
	"sort"

	"mercator/api"
	"mercator/drain"
	"mercator/field"
	"mercator/grain"
)

const mostWater = 1 << 40 // that can come to a cell

// Lakes of a raster.
func Lakes(a api.Raster) ([][]int, error) {
	deep, err := depths(a)
	if err != nil {
		return nil, err
	}
	return lakes(a, deep), nil
}

// Depth of a lake.
func Depth(a api.Raster, lake []int) (deepest, all int, err error) {
	deep, err := depths(a)
	if err != nil {
		return 0, 0, err
	}
	if !slices.ContainsFunc(lakes(a, deep), func(l []int) bool { return slices.Equal(l, lake) }) {
		return 0, 0, api.ErrShape
	}
	for _, cell := range lake {
		deepest = max(deepest, deep[cell])
		all += deep[cell]
	}
	return deepest, all, nil
}

// depths of the water on each cell, when all pits are full.
func depths(a api.Raster) ([]int, error) {
	full, err := drain.Fill(a)
	if err != nil {
		return nil, err
	}
	for cell, height := range a.L {
		full.L[cell] -= height
	}
	return full.L, nil
}

// lakes of a valid raster, where the water is so deep.
func lakes(a api.Raster, deep []int) [][]int {
	g := apart(len(a.L))
	for _, pair := range touching(a) {
		if deep[pair[0]] > 0 && deep[pair[1]] > 0 {
			g.join(pair[0], pair[1])
		}
	}
	var wet []int
	for cell := range a.L {
		if deep[cell] > 0 {
			wet = append(wet, cell)
		}
	}
	return g.lists(wet)
}

// Rise of water that comes to a cell.
func Rise(a api.Raster, cell, water int) (api.Frac, []int, error) {
	if err := field.Valid(a); err != nil {
		return api.Frac{}, nil, err
	}
	if !within(cell, 0, len(a.L)-1) || !within(water, 0, mostWater) {
		return api.Frac{}, nil, api.ErrRange
	}
	if drain.OnRim(a, cell) {
		return api.Frac{}, nil, api.ErrNone
	}
	return rise(a, cell, water)
}

// rise of water in a cell that is not of the rim. What stops it at some height stops it at each greater one.
func rise(a api.Raster, cell, water int) (api.Frac, []int, error) {
	low := a.L[cell]
	steps := sort.Search(api.MaxHigh-low, func(steps int) bool { return pool(a, cell, low+steps, water) == nil })
	if steps == 0 {
		return api.Frac{Num: low, Den: 1}, nil, nil
	}
	top := low + steps // the water does not rise above it, but above the whole height below it
	cells := pool(a, cell, top-1, water)
	sum := water
	for _, c := range cells {
		sum += a.L[c]
	}
	height, err := grain.Make(min(sum, top*len(cells)), len(cells))
	if err != nil {
		return api.Frac{}, nil, err
	}
	slices.Sort(cells)
	return height, cells, nil
}

// pool of water that rises above a height: the cells which are joined to one by cells not above it; nil: the water does not rise above it, as one of them is of the rim, or as they hold all of it up to there.
func pool(a api.Raster, cell, height, water int) []int {
	out, found := []int{cell}, make([]bool, len(a.L))
	found[cell] = true
	for n := 0; n < len(out); n++ {
		if water -= height - a.L[out[n]]; water <= 0 {
			return nil
		}
		for direction := range api.Sink {
			other, ok := drain.Neighbour(a, out[n], direction)
			if !ok { // it is of the rim
				return nil
			}
			if !found[other] && a.L[other] <= height {
				found[other] = true
				out = append(out, other)
			}
		}
	}
	return out
}
