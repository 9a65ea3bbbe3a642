package relief

import (
	"slices"

	"mercator/api"
	"mercator/field"
)

const (
	maxDen = 1 << 20 // of a height that triangles are held against
	maxNum = 1 << 42 // in size
)

// Tops and bottoms.
func Tops(a api.Raster) ([]int, []int, error) {
	if err := field.Valid(a); err != nil {
		return nil, nil, err
	}
	var tops, bottoms []int
	for cell := range a.L {
		top, bottom := stands(a, cell)
		if top {
			tops = append(tops, cell)
		}
		if bottom {
			bottoms = append(bottoms, cell)
		}
	}
	return tops, bottoms, nil
}

// stands a cell above all others around it, below all of them?
func stands(a api.Raster, cell int) (top, bottom bool) {
	top, bottom = true, true
	col, row := cell%a.Wide, cell/a.Wide
	for r := max(row-1, 0); r <= min(row+1, a.High-1); r++ {
		for c := max(col-1, 0); c <= min(col+1, a.Wide-1); c++ {
			if other := r*a.Wide + c; other != cell {
				top = top && a.L[other] < a.L[cell]
				bottom = bottom && a.L[other] > a.L[cell]
			}
		}
	}
	return top, bottom
}

// Above a height: triangles wholly, and partly.
func Above(a api.Raster, num, den int) (int, int, error) {
	if err := field.Valid(a); err != nil {
		return 0, 0, err
	}
	if !within(den, 1, maxDen) || !within(num, -maxNum, maxNum) {
		return 0, 0, api.ErrShape
	}
	whole, part := 0, 0
	for row := range a.High - 1 {
		for col := range a.Wide - 1 {
			for _, corners := range squareOf(a, col, row).triangles() {
				low, high := slices.Min(corners[:])*den, slices.Max(corners[:])*den
				if low > num {
					whole++
				} else if low < num && num < high { // one that only comes up to the height is neither
					part++
				}
			}
		}
	}
	return whole, part, nil
}
