package contour_test

import (
	"math"
	"math/big"
	"math/rand"
	"reflect"
	"slices"
	"sync"
	"testing"

	"mercator/api"
	"mercator/contour"
)

// raster of rows that are so wide.
func raster(wide int, l ...int) api.Raster {
	return api.Raster{Wide: wide, High: len(l) / wide, L: l}
}

// flat raster: one height.
func flat(wide, high, height int) api.Raster {
	return api.Raster{Wide: wide, High: high, L: slices.Repeat([]int{height}, wide*high)}
}

// sample: heights at most so great, in size.
func sample(r *rand.Rand, wide, high, size int) api.Raster {
	a := flat(wide, high, 0)
	for i := range a.L {
		a.L[i] = r.Intn(2*size+1) - size
	}
	return a
}

// held: a raster and a level that is held against it.
type held struct {
	a     api.Raster
	level int
}

// samples of many shapes, from one cell on; heights that are much alike, so that lines are long, and the greatest ones; levels beneath, between and above them.
func samples(seed int64) []held {
	r := rand.New(rand.NewSource(seed))
	var out []held
	for _, s := range [][2]int{{1, 1}, {1, 2}, {2, 1}, {2, 2}, {3, 2}, {2, 3}, {3, 3}, {4, 3}, {5, 5}, {4, 7}, {1, 9}, {9, 1}, {2, 9}, {9, 2}, {12, 11}} {
		for _, size := range []int{1, 3, 50, api.MaxHigh} {
			for n := range 8 {
				a := sample(r, s[0], s[1], size)
				if size < api.MaxHigh && n%2 > 0 {
					a = raised(a, size)
				}
				cell := r.Intn(len(a.L))
				for _, level := range []int{-1, 0, a.L[cell], a.L[cell] - 1, slices.Min(a.L), slices.Max(a.L) - 1, slices.Max(a.L)} {
					if level >= -api.MaxHigh {
						out = append(out, held{a, level})
					}
				}
			}
		}
	}
	return out
}

// pyramid: how far cells are from the rim, so many times.
func pyramid(wide, high, times int) api.Raster {
	a := flat(wide, high, 0)
	for cell := range a.L {
		col, row := cell%wide, cell/wide
		a.L[cell] = times * min(col, row, wide-1-col, high-1-row)
	}
	return a
}

// raised by a pyramid, so that lines lie in lines.
func raised(a api.Raster, times int) api.Raster {
	out := pyramid(a.Wide, a.High, times)
	for cell, height := range a.L {
		out.L[cell] += height
	}
	return out
}

// wrongRaster and the error that is told of it.
type wrongRaster struct {
	a   api.Raster
	err error
}

// wrongRasters: what no raster is.
func wrongRasters() []wrongRaster {
	high := func(height int) api.Raster { return raster(2, 1, 2, 3, height) }
	return []wrongRaster{
		{api.Raster{Wide: api.MaxSide + 1, High: 1, L: make([]int, api.MaxSide+1)}, api.ErrBound},
		{api.Raster{Wide: 1, High: api.MaxSide + 1, L: make([]int, api.MaxSide+1)}, api.ErrBound},
		{api.Raster{Wide: math.MaxInt, High: math.MaxInt, L: []int{1}}, api.ErrBound},
		{api.Raster{}, api.ErrShape},
		{api.Raster{Wide: 0, High: 1}, api.ErrShape},
		{api.Raster{Wide: 1, High: 1}, api.ErrShape},
		{api.Raster{Wide: -1, High: -1, L: []int{1}}, api.ErrShape},
		{api.Raster{Wide: math.MinInt, High: math.MinInt}, api.ErrShape},
		{api.Raster{Wide: 3, High: 3, L: make([]int, 8)}, api.ErrShape},
		{api.Raster{Wide: 3, High: 3, L: make([]int, 10)}, api.ErrShape},
		{high(api.MaxHigh + 1), api.ErrRange},
		{high(-api.MaxHigh - 1), api.ErrRange},
		{high(math.MinInt), api.ErrRange},
	}
}

// lines that are told without an error.
func lines(t *testing.T, a api.Raster, level int) []contour.Line {
	t.Helper()
	l, err := contour.Lines(a, level)
	if err != nil {
		t.Fatal(a, level, err)
	}
	return l
}

// same lines? An empty list is as good as none.
func same(a, b []contour.Line) bool {
	return slices.EqualFunc(a, b, func(a, b contour.Line) bool {
		return a.Closed == b.Closed && slices.Equal(a.Points, b.Points)
	})
}

// copied line, in memory of its own.
func copied(l contour.Line) contour.Line {
	return contour.Line{Closed: l.Closed, Points: slices.Clone(l.Points)}
}

// line of edges whose parts are all the same.
func line(closed bool, num, den int, edges ...[2]int) contour.Line {
	l := contour.Line{Closed: closed}
	for _, e := range edges {
		l.Points = append(l.Points, contour.Point{A: e[0], B: e[1], Part: api.Frac{Num: num, Den: den}})
	}
	return l
}

// P110, P111: rows that were worked out by hand.
func TestLines(t *testing.T) {
	half := func(closed bool, edges ...[2]int) contour.Line { return line(closed, 1, 2, edges...) }
	for _, c := range []struct {
		a     api.Raster
		level int
		want  []contour.Line
	}{
		{raster(1, 7), 7, nil},
		{raster(1, 0, 1, 0), 0, nil}, // no triangle, no edge
		{raster(3, 0, 1, 0), 0, nil},
		{raster(2, 1, 1, 1, 1), 1, nil}, // as high as the number is not above the level
		{raster(2, 1, 1, 1, 1), 0, nil},
		// One cell of four, each in turn, above and not: the corner of both triangles, or of one.
		{raster(2, 1, 0, 0, 0), 0, []contour.Line{half(false, [2]int{0, 2}, [2]int{0, 3}, [2]int{0, 1})}},
		{raster(2, 0, 1, 0, 0), 0, []contour.Line{half(false, [2]int{0, 1}, [2]int{1, 3})}},
		{raster(2, 0, 0, 1, 0), 0, []contour.Line{half(false, [2]int{2, 3}, [2]int{0, 2})}},
		{raster(2, 0, 0, 0, 1), 0, []contour.Line{half(false, [2]int{1, 3}, [2]int{0, 3}, [2]int{2, 3})}},
		{raster(2, 0, 1, 1, 1), 0, []contour.Line{half(false, [2]int{0, 1}, [2]int{0, 3}, [2]int{0, 2})}},
		{raster(2, 1, 0, 1, 1), 0, []contour.Line{half(false, [2]int{1, 3}, [2]int{0, 1})}},
		{raster(2, 1, 1, 0, 1), 0, []contour.Line{half(false, [2]int{0, 2}, [2]int{2, 3})}},
		{raster(2, 1, 1, 1, 0), 0, []contour.Line{half(false, [2]int{2, 3}, [2]int{0, 3}, [2]int{1, 3})}},
		// Two of four: the cut joins the north west and the south east, so two corners stay apart.
		{raster(2, 1, 0, 0, 1), 0, []contour.Line{half(false, [2]int{0, 2}, [2]int{2, 3}), half(false, [2]int{1, 3}, [2]int{0, 1})}},
		{raster(2, 0, 1, 1, 0), 0, []contour.Line{half(false, [2]int{0, 1}, [2]int{1, 3}), half(false, [2]int{2, 3}, [2]int{0, 2})}},
		// Parts run from the lesser cell, up or down.
		{raster(2, -3, -3, 4, 4), -3, []contour.Line{line(false, 1, 14, [2]int{1, 3}, [2]int{0, 3}, [2]int{0, 2})}},
		{raster(2, 4, 4, -3, -3), -3, []contour.Line{line(false, 13, 14, [2]int{0, 2}, [2]int{0, 3}, [2]int{1, 3})}},
		{raster(2, 5, 5, 0, 0), 2, []contour.Line{line(false, 1, 2, [2]int{0, 2}, [2]int{0, 3}, [2]int{1, 3})}},
		// The greatest heights, the outermost levels.
		{raster(2, -api.MaxHigh, -api.MaxHigh, api.MaxHigh, api.MaxHigh), -api.MaxHigh, []contour.Line{line(false, 1, 4*api.MaxHigh, [2]int{1, 3}, [2]int{0, 3}, [2]int{0, 2})}},
		{raster(2, -api.MaxHigh, -api.MaxHigh, api.MaxHigh, api.MaxHigh), api.MaxHigh - 1, []contour.Line{line(false, 4*api.MaxHigh-1, 4*api.MaxHigh, [2]int{1, 3}, [2]int{0, 3}, [2]int{0, 2})}},
		{raster(2, -api.MaxHigh, -api.MaxHigh, api.MaxHigh, api.MaxHigh), api.MaxHigh, nil},
		// A hill and a hollow: closed, from the least edge, against the clock and with it.
		{raster(3, 0, 0, 0, 0, 1, 0, 0, 0, 0), 0, []contour.Line{half(true, [2]int{0, 4}, [2]int{3, 4}, [2]int{4, 7}, [2]int{4, 8}, [2]int{4, 5}, [2]int{1, 4})}},
		{raster(3, 1, 1, 1, 1, 0, 1, 1, 1, 1), 0, []contour.Line{half(true, [2]int{0, 4}, [2]int{1, 4}, [2]int{4, 5}, [2]int{4, 8}, [2]int{4, 7}, [2]int{3, 4})}},
		// Closed and open ones alike stand by their first edges.
		{raster(4, 0, 0, 0, 1, 0, 1, 0, 0, 0, 0, 0, 0), 0, []contour.Line{
			half(true, [2]int{0, 5}, [2]int{4, 5}, [2]int{5, 9}, [2]int{5, 10}, [2]int{5, 6}, [2]int{1, 5}),
			half(false, [2]int{2, 3}, [2]int{3, 7}),
		}},
	} {
		if got := lines(t, c.a, c.level); !same(got, c.want) {
			t.Error(c.a, c.level, got, c.want)
		}
	}
}

// P111: levels up to MaxHigh in size, on both sides.
func TestLinesWrong(t *testing.T) {
	a := raster(2, 0, 1, 2, 3)
	for _, level := range []int{api.MaxHigh + 1, -api.MaxHigh - 1, math.MaxInt, math.MinInt} {
		if l, err := contour.Lines(a, level); err != api.ErrRange || len(l) > 0 {
			t.Error(level, l, err)
		}
	}
	for _, level := range []int{api.MaxHigh, -api.MaxHigh} {
		if l, err := contour.Lines(a, level); err != nil || len(l) > 0 {
			t.Error(level, l, err)
		}
	}
}

// P111 to P114: what is no raster is told ahead of what is wrong beside it, and nothing else is told then.
func TestWrongRasters(t *testing.T) {
	hill := line(true, 1, 2, [2]int{0, 4}, [2]int{3, 4}, [2]int{4, 7}, [2]int{4, 8}, [2]int{4, 5}, [2]int{1, 4})
	for _, c := range wrongRasters() {
		for _, n := range []int{0, 1, -1, math.MaxInt, math.MinInt} {
			if l, err := contour.Lines(c.a, n); err != c.err || len(l) > 0 {
				t.Error("Lines", c.a, n, l, err)
			}
			if l, err := contour.Many(c.a, n, n, n, n); err != c.err || len(l) > 0 {
				t.Error("Many", c.a, n, l, err)
			}
		}
		for _, l := range []contour.Line{hill, {}, {Closed: true}, line(true, 0, 0, [2]int{-1, 99})} {
			if in, err := contour.Inside(c.a, l); err != c.err || len(in) > 0 {
				t.Error("Inside", c.a, in, err)
			}
			if n, err := contour.Nest(c.a, []contour.Line{l}); err != c.err || len(n) > 0 {
				t.Error("Nest", c.a, n, err)
			}
		}
		if n, err := contour.Nest(c.a, nil); err != c.err || len(n) > 0 {
			t.Error("Nest", c.a, n, err)
		}
	}
}

// triangles of a raster: their cells.
func triangles(a api.Raster) [][3]int {
	var out [][3]int
	for row := 0; row+1 < a.High; row++ {
		for col := 0; col+1 < a.Wide; col++ {
			nw := row*a.Wide + col
			out = append(out, [3]int{nw, nw + 1, nw + a.Wide + 1}, [3]int{nw, nw + a.Wide, nw + a.Wide + 1})
		}
	}
	return out
}

// where on the ground a point is: to the east, to the north.
func where(a api.Raster, p contour.Point) (x, y *big.Rat) {
	part := big.NewRat(int64(p.Part.Num), int64(p.Part.Den))
	along := func(from, to int) *big.Rat {
		way := new(big.Rat).Mul(part, big.NewRat(int64(to-from), 1))
		return way.Add(way, big.NewRat(int64(from), 1))
	}
	return along(p.A%a.Wide, p.B%a.Wide), along(-(p.A / a.Wide), -(p.B / a.Wide))
}

// leftOf the way from one point to another one lies a cell?
func leftOf(a api.Raster, from, to contour.Point, cell int) bool {
	x, y := where(a, from)
	east, north := where(a, to)
	east.Sub(east, x)
	north.Sub(north, y)
	x.Sub(big.NewRat(int64(cell%a.Wide), 1), x)
	y.Sub(big.NewRat(int64(-(cell/a.Wide)), 1), y)
	return east.Mul(east, y).Cmp(north.Mul(north, x)) > 0
}

// bit of a line within one triangle.
type bit struct{ from, to contour.Point }

// bitsOf a level: in each triangle, turned so that what is above lies to the left.
func bitsOf(t *testing.T, a api.Raster, level int) []bit {
	t.Helper()
	var out []bit
	for _, cells := range triangles(a) {
		var points []contour.Point
		top := -1
		for i, cell := range cells {
			for _, other := range cells[i+1:] {
				if from, to := a.L[cell], a.L[other]; min(from, to) <= level && max(from, to) > level {
					part := big.NewRat(int64(2*level+1-2*from), int64(2*(to-from)))
					points = append(points, contour.Point{A: cell, B: other, Part: api.Frac{Num: int(part.Num().Int64()), Den: int(part.Denom().Int64())}})
				}
			}
			if a.L[cell] > level {
				top = cell
			}
		}
		if len(points) == 0 {
			continue
		}
		b := bit{points[0], points[1]}
		if !leftOf(a, b.from, b.to, top) {
			b.from, b.to = b.to, b.from
		}
		out = append(out, b)
	}
	return out
}

// byEdge: which point's edge is the lesser one?
func byEdge(a, b contour.Point) int {
	if a.A != b.A {
		return a.A - b.A
	}
	return a.B - b.B
}

// linesOf a level: bits that are searched for again for each step. An open line begins where no bit comes to.
func linesOf(t *testing.T, a api.Raster, level int) []contour.Line {
	t.Helper()
	bits := bitsOf(t, a, level)
	slices.SortFunc(bits, func(a, b bit) int { return byEdge(a.from, b.from) })
	var out []contour.Line
	take := func(n int) {
		l := contour.Line{Points: []contour.Point{bits[n].from}}
		for n >= 0 {
			to := bits[n].to
			bits = slices.Delete(bits, n, n+1)
			if l.Closed = to == l.Points[0]; l.Closed {
				break
			}
			l.Points = append(l.Points, to)
			n = slices.IndexFunc(bits, func(b bit) bool { return b.from == to })
		}
		out = append(out, l)
	}
	for n := 0; n < len(bits); {
		if slices.ContainsFunc(bits, func(b bit) bool { return b.to == bits[n].from }) {
			n++
			continue
		}
		take(n)
		n = 0
	}
	for len(bits) > 0 {
		take(0)
	}
	slices.SortFunc(out, func(a, b contour.Line) int { return byEdge(a.Points[0], b.Points[0]) })
	return out
}

// P110, P111: samples, by where points lie.
func TestLinesSamples(t *testing.T) {
	open, closed, longest := 0, 0, 0
	for _, c := range samples(110) {
		want := linesOf(t, c.a, c.level)
		if got := lines(t, c.a, c.level); !same(got, want) {
			t.Fatal(c.a, c.level, got, want)
		}
		for _, l := range want {
			longest = max(longest, len(l.Points))
			if l.Closed {
				closed++
			} else {
				open++
			}
		}
	}
	if open < 500 || closed < 500 || longest < 50 {
		t.Error("samples are too much alike", open, closed, longest)
	}
}

// sharing: how many triangles have all these cells?
func sharing(all [][3]int, cells ...int) int {
	n := 0
	for _, triangle := range all {
		has := true
		for _, cell := range cells {
			has = has && slices.Contains(triangle[:], cell)
		}
		if has {
			n++
		}
	}
	return n
}

// P111: what the document says of lines, word by word.
func TestLinesHold(t *testing.T) {
	for _, c := range samples(111) {
		if len(c.a.L) > 40 {
			continue
		}
		all := triangles(c.a)
		var edges [][2]int
		var firsts []contour.Point
		for _, l := range lines(t, c.a, c.level) {
			firsts = append(firsts, l.Points[0])
			for n, p := range l.Points {
				edges = append(edges, [2]int{p.A, p.B})
				if p.A >= p.B || p.Part.Num < 1 || p.Part.Num >= p.Part.Den || (c.a.L[p.A] > c.level) == (c.a.L[p.B] > c.level) {
					t.Error(c, p)
				}
				if end := n == 0 || n == len(l.Points)-1; !l.Closed && end != (sharing(all, p.A, p.B) == 1) {
					t.Error(c, l, n)
				}
				next := l.Points[(n+1)%len(l.Points)]
				if (l.Closed || n+1 < len(l.Points)) && sharing(all, p.A, p.B, next.A, next.B) != 1 {
					t.Error(c, l, n)
				}
				if l.Closed && n > 0 && byEdge(l.Points[0], p) >= 0 {
					t.Error(c, l, n)
				}
			}
		}
		if !slices.IsSortedFunc(firsts, byEdge) {
			t.Error(c, firsts)
		}
		if want := crossed(all, c); !slices.Equal(sorted(edges), want) {
			t.Error(c, edges, want)
		}
	}
}

// crossed edges, each once, rising.
func crossed(all [][3]int, c held) [][2]int {
	var out [][2]int
	for _, cells := range all {
		for i, cell := range cells {
			for _, other := range cells[i+1:] {
				if (c.a.L[cell] > c.level) != (c.a.L[other] > c.level) {
					out = append(out, [2]int{cell, other})
				}
			}
		}
	}
	return slices.Compact(sorted(out))
}

// sorted pairs.
func sorted(l [][2]int) [][2]int {
	slices.SortFunc(l, func(a, b [2]int) int { return slices.Compare(a[:], b[:]) })
	return l
}

// P111: the greatest raster, with the most edges that a level crosses, and rings.
func TestLinesFull(t *testing.T) {
	a := flat(api.MaxSide, api.MaxSide, 0)
	for cell := range a.L {
		a.L[cell] = (cell%a.Wide + cell/a.Wide) % 2
	}
	points := 0
	for _, l := range lines(t, a, 0) {
		points += len(l.Points)
	}
	if want := 2 * api.MaxSide * (api.MaxSide - 1); points != want { // all but those that are slanting
		t.Error(points, want)
	}
	for level := range api.MaxSide/2 - 1 {
		side := api.MaxSide - 2*(level+1) // of the square inside: four edges a cell of its sides, two of them slanting, less two at its corners
		l := lines(t, pyramid(api.MaxSide, api.MaxSide, 1), level)
		if len(l) != 1 || !l[0].Closed || len(l[0].Points) != 8*side-2 {
			t.Error(level, len(l))
		}
	}
}

// P112: the lines of each level, with however many workers.
func TestMany(t *testing.T) {
	r := rand.New(rand.NewSource(112))
	for _, size := range []int{1, 8, 1000} {
		a := sample(r, 14, 11, size)
		for workers := 1; workers <= api.Workers; workers++ {
			for _, c := range [][3]int{{0, 1, 1}, {-size - 1, 1, 9}, {-size, size, 3}, {-2 * size, 7, 40}} {
				got, err := contour.Many(a, c[0], c[1], c[2], workers)
				if err != nil || len(got) != c[2] {
					t.Fatal(c, workers, len(got), err)
				}
				for n, l := range got {
					if want := lines(t, a, c[0]+n*c[1]); !same(l, want) {
						t.Error(c, workers, n, l, want)
					}
				}
			}
		}
	}
}

// P112: the most levels, the first and the last one of all.
func TestManyEnds(t *testing.T) {
	a := raster(2, -api.MaxHigh, -api.MaxHigh, api.MaxHigh, api.MaxHigh)
	got, err := contour.Many(a, -api.MaxHigh, 1, api.MaxList, api.Workers)
	if err != nil || len(got) != api.MaxList {
		t.Fatal(len(got), err)
	}
	for n, l := range got {
		if !same(l, lines(t, a, n-api.MaxHigh)) {
			t.Error(n, l)
		}
	}
	for _, c := range []struct {
		from, step, many int
		err              error
	}{
		{-api.MaxHigh, 2 * api.MaxHigh, 2, nil}, {-api.MaxHigh, 2*api.MaxHigh + 1, 2, api.ErrRange},
		{-api.MaxHigh, api.MaxHigh, 3, nil}, {-api.MaxHigh, api.MaxHigh, 4, api.ErrRange},
		{api.MaxHigh, math.MaxInt, 1, nil}, {api.MaxHigh, 1, 2, api.ErrRange},
		{api.MaxHigh - 3999, 1, 4000, nil}, {api.MaxHigh - 3998, 1, 4000, api.ErrRange},
		{-api.MaxHigh, math.MaxInt, 1, nil}, {-api.MaxHigh, math.MaxInt, 2, api.ErrRange},
		{0, math.MaxInt, 3, api.ErrRange}, {0, 1 << 62, 4, api.ErrRange}, {0, 1 << 62, 5, api.ErrRange},
		{api.MaxHigh + 1, 1, 1, api.ErrRange}, {-api.MaxHigh - 1, 1, 1, api.ErrRange}, {-api.MaxHigh - 1, 1, 2, api.ErrRange},
		{math.MaxInt, 1, 1, api.ErrRange}, {math.MinInt, 1, 1, api.ErrRange}, {math.MinInt, math.MaxInt, api.MaxList, api.ErrRange},
	} {
		got, err := contour.Many(a, c.from, c.step, c.many, 2)
		if err != c.err || err == nil && len(got) != c.many || err != nil && len(got) > 0 {
			t.Error(c, len(got), err)
		}
	}
}

// P112: what is no shape is told ahead of a level.
func TestManyShapes(t *testing.T) {
	a := raster(2, 0, 1, 2, 3)
	for _, from := range []int{0, math.MaxInt, math.MinInt} {
		for _, c := range [][3]int{
			{0, 1, 1}, {-1, 1, 1}, {math.MinInt, 1, 1},
			{1, 0, 1}, {1, -1, 1}, {1, api.MaxList + 1, 1}, {1, math.MaxInt, 1}, {1, math.MinInt, 1},
			{1, 1, 0}, {1, 1, -1}, {1, 1, api.Workers + 1}, {1, 1, math.MaxInt}, {1, 1, math.MinInt},
		} {
			if got, err := contour.Many(a, from, c[0], c[1], c[2]); err != api.ErrShape || len(got) > 0 {
				t.Error(from, c, got, err)
			}
		}
	}
}

// P2: many calls at once tell what one tells.
func TestManyAtOnce(t *testing.T) {
	a := sample(rand.New(rand.NewSource(2)), 30, 20, 10)
	want, err := contour.Many(a, -10, 1, 20, 1)
	if err != nil {
		t.Fatal(err)
	}
	var busy sync.WaitGroup
	for n := range 48 {
		busy.Go(func() {
			if got, err := contour.Many(a, -10, 1, 20, n%api.Workers+1); err != nil || !reflect.DeepEqual(got, want) {
				t.Error(n, err)
			}
		})
	}
	busy.Wait()
}

// P3, P4: heights are only read, none behind them is asked or written; what is answered is nobody else's.
func TestMemory(t *testing.T) {
	memory := append(slices.Clone(pyramid(5, 5, 2).L), math.MaxInt, math.MinInt, 9)
	before := slices.Clone(memory)
	a := api.Raster{Wide: 5, High: 5, L: memory[:25]}
	many, err := contour.Many(a, 0, 1, 4, 3)
	if err != nil {
		t.Fatal(err)
	}
	var all []contour.Line
	for _, l := range many {
		all = append(all, l...)
	}
	given := make([]contour.Line, len(all))
	for n, l := range all {
		given[n] = copied(l)
	}
	for _, l := range all {
		if in, err := contour.Inside(a, l); err != nil || len(in) == 0 {
			t.Error(in, err)
		}
	}
	if _, err := contour.Nest(a, all); err != nil {
		t.Error(err)
	}
	if !slices.Equal(memory, before) || !same(all, given) {
		t.Error(memory, all)
	}
	for n := range all { // more is written behind one line, then over it: the others stay
		_ = append(all[n].Points, contour.Point{A: -1}, contour.Point{A: -2})
		all[n].Points[0].A = -3
		if !same(all[n+1:], given[n+1:]) {
			t.Error(n)
		}
	}
	if again, _ := contour.Many(a, 0, 1, 4, 3); !same(again[0], given[:1]) {
		t.Error(again)
	}
}
