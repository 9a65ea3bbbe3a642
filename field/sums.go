package field

import "mercator/api"

// block of cells: rows from top on, up to bottom, which is not in it; so of columns.
type block struct{ top, bottom, left, right int }

// sums of all cells to the north west of each corner between cells: four of them tell the sum of a block, however great it is.
type sums struct {
	wide int
	l    []int
}

func sumsOf(a api.Raster) sums {
	s := sums{wide: a.Wide + 1, l: make([]int, (a.Wide+1)*(a.High+1))}
	for row := range a.High {
		along := 0
		for col := range a.Wide {
			along += a.L[row*a.Wide+col]
			s.l[(row+1)*s.wide+col+1] = s.at(row, col+1) + along
		}
	}
	return s
}

// at a corner.
func (s sums) at(row, col int) int { return s.l[row*s.wide+col] }

// mean of a block that has a cell, rounded down.
func (s sums) mean(b block) int {
	sum := s.at(b.bottom, b.right) - s.at(b.top, b.right) - s.at(b.bottom, b.left) + s.at(b.top, b.left)
	many := (b.bottom - b.top) * (b.right - b.left)
	if sum < 0 { // division rounds towards 0
		sum -= many - 1
	}
	return sum / many
}
