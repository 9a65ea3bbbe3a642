package sight_test

import (
	"math/big"

	"mercator/api"
	"mercator/sight"
)

// rat of a whole number.
func rat(n int) *big.Rat { return big.NewRat(int64(n), 1) }

// mixed: the number that lies part of the way from one to another one.
func mixed(from, to, part *big.Rat) *big.Rat {
	way := new(big.Rat).Sub(to, from)
	return way.Add(from, way.Mul(way, part))
}

// thick: a raster of at least two rows and columns; where there is one alone, it stands twice. Cells keep their columns and rows.
func thick(a api.Raster) api.Raster {
	if a.Wide > 1 && a.High > 1 {
		return a
	}
	out := flat(max(a.Wide, 2), max(a.High, 2), 0)
	for cell := range out.L {
		out.L[cell] = a.L[min(cell/out.Wide, a.High-1)*a.Wide+min(cell%out.Wide, a.Wide-1)]
	}
	return out
}

// corner of a triangle: where its middle is, and how high.
type corner struct{ col, row, height int }

// triangle of the ground, its corners against the clock or with it.
type triangle [3]corner

// trianglesBetween the rows and columns of two cells: what a line between them can come over.
func trianglesBetween(a api.Raster, from, to corner) []triangle {
	at := func(col, row int) corner { return corner{col, row, a.L[row*a.Wide+col]} }
	var out []triangle
	for row := max(min(from.row, to.row)-1, 0); row < min(max(from.row, to.row)+1, a.High-1); row++ {
		for col := max(min(from.col, to.col)-1, 0); col < min(max(from.col, to.col)+1, a.Wide-1); col++ {
			nw, se := at(col, row), at(col+1, row+1)
			out = append(out, triangle{nw, at(col+1, row), se}, triangle{nw, at(col, row+1), se})
		}
	}
	return out
}

// turned: twice the area of three corners; its sign tells which way they go.
func turned(a, b, c corner) int {
	return (b.col-a.col)*(c.row-a.row) - (c.col-a.col)*(b.row-a.row)
}

// part of the way between two cells that lies in a triangle, from .. to; ok: some of it does.
func (one triangle) part(from, to corner) (low, high *big.Rat, ok bool) {
	low, high = rat(0), rat(1)
	all := turned(one[0], one[1], one[2])
	for i := range 3 {
		first := turned(from, one[(i+1)%3], one[(i+2)%3]) * all
		last := turned(to, one[(i+1)%3], one[(i+2)%3]) * all
		if first == last {
			if first < 0 {
				return nil, nil, false
			}
			continue
		}
		zero := big.NewRat(int64(first), int64(first-last))
		if first < last && zero.Cmp(low) > 0 {
			low = zero
		}
		if first > last && zero.Cmp(high) < 0 {
			high = zero
		}
	}
	return low, high, low.Cmp(high) <= 0
}

// at some part of the way between two cells: the height of the triangle's plane, by the areas over against its corners.
func (one triangle) at(from, to corner, part *big.Rat) *big.Rat {
	all, sum := rat(turned(one[0], one[1], one[2])), rat(0)
	for i := range 3 {
		first, last := rat(turned(from, one[(i+1)%3], one[(i+2)%3])), rat(turned(to, one[(i+1)%3], one[(i+2)%3]))
		area := mixed(first, last, part)
		sum.Add(sum, area.Mul(area, rat(one[i].height)))
	}
	return sum.Quo(sum, all)
}

// look as it is told: in each triangle the line is held against the ground where it comes in and where it goes out. Is it free, and how much must the mark be above the ground for that?
func look(a api.Raster, l sight.Look) (free bool, need *big.Rat) {
	from := corner{l.From % a.Wide, l.From / a.Wide, a.L[l.From]}
	to := corner{l.To % a.Wide, l.To / a.Wide, a.L[l.To]}
	free, need = true, rat(0)
	if l.From == l.To {
		return free, need
	}
	eye, mark := rat(from.height+l.Eye), rat(to.height+l.Up)
	for _, one := range trianglesBetween(thick(a), from, to) {
		low, high, ok := one.part(from, to)
		if !ok {
			continue
		}
		for _, part := range []*big.Rat{low, high} {
			ground := one.at(from, to, part)
			if mixed(eye, mark, part).Cmp(ground) < 0 {
				free = false
			}
			if part.Sign() == 0 {
				continue
			}
			back := new(big.Rat).Sub(rat(1), part)
			lack := ground.Sub(ground, back.Mul(back, eye))
			lack.Sub(lack.Quo(lack, part), rat(to.height))
			if lack.Cmp(need) > 0 {
				need = lack
			}
		}
	}
	return free, need
}
