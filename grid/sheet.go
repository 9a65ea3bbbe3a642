package grid

import "mercator/api"

// Sheet of many.
type Sheet struct {
	Col, Row int
	Box      api.Box
}

// Sheets that cover a box.
func Sheets(all api.Box, wide, high, lap int) ([]Sheet, error) {
	if !right(all) || !within(wide, 1, 2*api.MaxPlace) || !within(high, 1, 2*api.MaxPlace) || !within(lap, 0, api.MaxPlace) {
		return nil, api.ErrShape
	}
	cols := (all.High.X-all.Low.X)/wide + 1
	rows := (all.High.Y-all.Low.Y)/high + 1
	if cols*rows > api.MaxList {
		return nil, api.ErrBound
	}
	var out []Sheet
	for row := range rows {
		for col := range cols {
			low := api.Spot{X: all.Low.X + col*wide - lap, Y: all.Low.Y + row*high - lap}
			far := api.Spot{X: low.X + wide - 1 + 2*lap, Y: low.Y + high - 1 + 2*lap}
			out = append(out, Sheet{Col: col, Row: row, Box: api.Box{Low: low, High: far}})
		}
	}
	return out, nil
}

// On which sheets a point is.
func On(l []Sheet, p api.Spot) []int {
	var out []int
	for i, s := range l {
		if within(p.X, s.Box.Low.X, s.Box.High.X) && within(p.Y, s.Box.Low.Y, s.Box.High.Y) {
			out = append(out, i)
		}
	}
	return out
}

// Lines of a grid on a sheet.
func Lines(b api.Box, step int) (xs, ys []int, err error) {
	if !right(b) || step < 1 {
		return nil, nil, api.ErrShape
	}
	xs, fewX := multiples(b.Low.X, b.High.X, step)
	ys, fewY := multiples(b.Low.Y, b.High.Y, step)
	if !fewX || !fewY {
		return nil, nil, api.ErrBound
	}
	return xs, ys, nil
}

// multiples of a step, from low to high; false: there are too many for a list.
func multiples(low, high, step int) ([]int, bool) {
	first, last := -floor(-low, step), floor(high, step)
	if last-first >= api.MaxList {
		return nil, false
	}
	var out []int
	for n := first; n <= last; n++ { // the numbers are counted, not their multiples: another step might lead out of what an int holds
		out = append(out, n*step)
	}
	return out, true
}

// floor: how many steps, which are above 0, a number is, rounded down.
func floor(n, step int) int {
	whole := n / step
	if n%step < 0 {
		whole--
	}
	return whole
}

// right box?
func right(b api.Box) bool {
	for _, n := range [4]int{b.Low.X, b.Low.Y, b.High.X, b.High.Y} {
		if !within(n, -api.MaxPlace, api.MaxPlace) {
			return false
		}
	}
	return b.Low.X <= b.High.X && b.Low.Y <= b.High.Y
}

// within bounds? Both of them are.
func within(n, low, high int) bool { return n >= low && n <= high }
