package drain

import (
	"cmp"
	"container/heap"
	"slices"

	"mercator/api"
)

const (
	directions = api.Sink // so many lead to neighbours
	dry        = -1       // the flow of a cell that has not come to wait yet
)

// flood of a raster, as far as it has come.
type flood struct {
	ground api.Raster
	level  []int // of each cell: the height at which it waits, or waited
	flow   []int // of each cell: the direction in which it flows; Sink: a cell of the rim
	order  []int // the cells, as they were taken
	waits  queue
}

// flooded: all cells of a valid raster were taken.
func flooded(a api.Raster) *flood {
	f := &flood{ground: a, level: make([]int, len(a.L)), flow: slices.Repeat([]int{dry}, len(a.L))}
	for cell, height := range a.L {
		if OnRim(a, cell) {
			f.wait(cell, height, api.Sink)
		}
	}
	for f.waits.Len() > 0 {
		f.take()
	}
	return f
}

// wait, from now on, at a height.
func (f *flood) wait(cell, level, flow int) {
	f.level[cell], f.flow[cell] = level, flow
	heap.Push(&f.waits, waiting{level, cell})
}

// take the cell that waits at the least height; its neighbours come to wait.
func (f *flood) take() {
	taken, ok := heap.Pop(&f.waits).(waiting)
	if !ok {
		return
	}
	f.order = append(f.order, taken.cell)
	for direction := range directions {
		other, ok := Neighbour(f.ground, taken.cell, direction)
		if ok && f.flow[other] == dry {
			f.wait(other, max(f.ground.L[other], taken.level), opposite(direction))
		}
	}
}

// next cell, into which a cell flows; false: it is of the rim.
func (f *flood) next(cell int) (int, bool) { return Neighbour(f.ground, cell, f.flow[cell]) }

// Neighbour of a raster's cell in a direction; false: there is none.
func Neighbour(a api.Raster, cell, direction int) (int, bool) {
	if a.Wide < 1 || !within(cell, 0, len(a.L)-1) || !within(direction, 0, directions-1) {
		return 0, false
	}
	east, north := step(direction)
	col, row := cell%a.Wide+east, cell/a.Wide-north
	if !within(col, 0, a.Wide-1) || !within(row, 0, a.High-1) {
		return 0, false
	}
	return row*a.Wide + col, true
}

// OnRim: has a raster's cell fewer neighbours than there are directions?
func OnRim(a api.Raster, cell int) bool {
	for direction := range directions {
		if _, ok := Neighbour(a, cell, direction); !ok {
			return true
		}
	}
	return false
}

// step in a direction: so many columns to the east, and rows to the north.
func step(direction int) (east, north int) {
	switch direction {
	case api.NorthEast, api.East, api.SouthEast:
		east = 1
	case api.NorthWest, api.West, api.SouthWest:
		east = -1
	}
	switch direction {
	case api.NorthEast, api.North, api.NorthWest:
		north = 1
	case api.SouthEast, api.South, api.SouthWest:
		north = -1
	}
	return east, north
}

// opposite direction.
func opposite(direction int) int { return (direction + directions/2) % directions }

// waiting cell, and the height at which it waits.
type waiting struct{ level, cell int }

// queue of cells that wait, in the order that a heap keeps.
type queue []waiting

// Len of the queue.
func (q queue) Len() int { return len(q) }

// Less: is one cell taken ahead of another one?
func (q queue) Less(i, j int) bool {
	return cmp.Or(cmp.Compare(q[i].level, q[j].level), cmp.Compare(q[i].cell, q[j].cell)) < 0
}

// Swap two cells.
func (q queue) Swap(i, j int) { q[i], q[j] = q[j], q[i] }

// Push a cell behind the last one.
func (q *queue) Push(x any) {
	if w, ok := x.(waiting); ok {
		*q = append(*q, w)
	}
}

// Pop the last cell.
func (q *queue) Pop() any {
	last := len(*q) - 1
	w := (*q)[last]
	*q = (*q)[:last]
	return w
}
