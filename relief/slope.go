package relief

import (
	"math/bits"
	"sort"

	"mercator/api"
	"mercator/field"
)

const (
	brightest = 255      // a shade; the darkest one is 0
	maxLight  = 1024     // a number of light, in size
	upright   = 8 * step // a slope's two weights of 4 lie two steps apart
)

// Slope of a cell.
func Slope(a api.Raster, cell int) (east, north int, err error) {
	if err := field.Valid(a); err != nil {
		return 0, 0, err
	}
	if !within(cell, 0, len(a.L)-1) {
		return 0, 0, api.ErrRange
	}
	nw, n, ne := near(a, cell, -1, -1), near(a, cell, 0, -1), near(a, cell, 1, -1)
	w, e := near(a, cell, -1, 0), near(a, cell, 1, 0)
	sw, s, se := near(a, cell, -1, 1), near(a, cell, 0, 1), near(a, cell, 1, 1)
	return (ne + 2*e + se) - (nw + 2*w + sw), (nw + 2*n + ne) - (sw + 2*s + se), nil
}

// near a cell, so many columns and rows on: the height there; the cell's own, if there is no other.
func near(a api.Raster, cell, cols, rows int) int {
	col, row := cell%a.Wide+cols, cell/a.Wide+rows
	if !within(col, 0, a.Wide-1) || !within(row, 0, a.High-1) {
		return a.L[cell]
	}
	return a.L[row*a.Wide+col]
}

// Shade of a cell.
func Shade(a api.Raster, cell int, light [3]int) (int, error) {
	east, north, err := Slope(a, cell)
	if err != nil {
		return 0, err
	}
	if !shining(light) {
		return 0, api.ErrShape
	}
	return lit([3]int{-east, -north, upright}, light), nil
}

// shining: can a light be so?
func shining(light [3]int) bool {
	for _, part := range light {
		if !within(part, -maxLight, maxLight) {
			return false
		}
	}
	return light != [3]int{}
}

// lit: how bright ground is that faces one way, in a light from another one. Both squares are longer than a word.
func lit(face, light [3]int) int {
	toward := dot(face, light)
	if toward <= 0 {
		return 0
	}
	most := squared(brightest * toward)
	return sort.Search(brightest, func(v int) bool {
		brighter := v + 1
		return most.below(product(dot(face, face), brighter*brighter*dot(light, light)))
	})
}

// dot product of two vectors.
func dot(a, b [3]int) int { return a[0]*b[0] + a[1]*b[1] + a[2]*b[2] }

// double word: a number from 0 on.
type double struct{ high, low uint64 }

// product of two numbers from 0 on.
func product(a, b int) double {
	high, low := bits.Mul64(uint64(a), uint64(b))
	return double{high, low}
}

// squared number.
func squared(a int) double { return product(a, a) }

// below another one?
func (d double) below(other double) bool {
	if d.high != other.high {
		return d.high < other.high
	}
	return d.low < other.low
}
