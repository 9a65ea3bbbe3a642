package contour_test

import (
	"math"
	"math/rand"
	"slices"
	"testing"

	"mercator/api"
	"mercator/contour"
)

// insideOf a line, as it is told: from which cells one cannot come to the rim.
func insideOf(a api.Raster, l contour.Line) []int {
	barred := map[[2]int]bool{}
	for _, p := range l.Points {
		barred[[2]int{p.A, p.B}], barred[[2]int{p.B, p.A}] = true, true
	}
	ways := make([][]int, len(a.L))
	for _, cells := range triangles(a) {
		for _, cell := range cells {
			for _, other := range cells {
				if cell != other && !barred[[2]int{cell, other}] {
					ways[cell] = append(ways[cell], other)
				}
			}
		}
	}
	come := make([]bool, len(a.L))
	var work []int
	for cell := range a.L {
		if col, row := cell%a.Wide, cell/a.Wide; col == 0 || row == 0 || col == a.Wide-1 || row == a.High-1 {
			come[cell] = true
			work = append(work, cell)
		}
	}
	for len(work) > 0 {
		cell := work[0]
		work = work[1:]
		for _, other := range ways[cell] {
			if !come[other] {
				come[other] = true
				work = append(work, other)
			}
		}
	}
	var out []int
	for cell, rim := range come {
		if !rim {
			out = append(out, cell)
		}
	}
	return out
}

// P113: rows that were worked out by hand.
func TestInside(t *testing.T) {
	for _, c := range []struct {
		a     api.Raster
		level int
		want  [][]int
	}{
		{pyramid(3, 3, 1), 0, [][]int{{4}}},
		{pyramid(5, 5, 1), 0, [][]int{{6, 7, 8, 11, 12, 13, 16, 17, 18}}},
		{pyramid(5, 5, 1), 1, [][]int{{12}}},
		// A slanting pair is one hill to the south east, two to the south west.
		{raster(4, 0, 0, 0, 0, 0, 1, 0, 0, 0, 0, 1, 0, 0, 0, 0, 0), 0, [][]int{{5, 10}}},
		{raster(4, 0, 0, 0, 0, 0, 0, 1, 0, 0, 1, 0, 0, 0, 0, 0, 0), 0, [][]int{{6}, {9}}},
		// A ring: its outer line has the hollow inside; a cell of a row may be in, out and in again.
		{raster(5, 0, 0, 0, 0, 0, 0, 1, 1, 1, 0, 0, 1, 0, 1, 0, 0, 1, 1, 1, 0, 0, 0, 0, 0, 0), 0, [][]int{{6, 7, 8, 11, 12, 13, 16, 17, 18}, {12}}},
		{raster(5, 0, 0, 0, 0, 0, 0, 1, 0, 1, 0, 0, 1, 0, 1, 0, 0, 1, 1, 1, 0, 0, 0, 0, 0, 0), 0, [][]int{{6, 8, 11, 13, 16, 17, 18}}},
	} {
		l := lines(t, c.a, c.level)
		if len(l) != len(c.want) {
			t.Fatal(c, l)
		}
		for n, want := range c.want {
			if got, err := contour.Inside(c.a, l[n]); err != nil || !slices.Equal(got, want) {
				t.Error(c.a, n, got, err, want)
			}
		}
	}
}

// P113, P115: samples, by going from cell to cell; the cells inside at a line's edges are all above, or none is.
func TestInsideSamples(t *testing.T) {
	closed, cells := 0, 0
	for _, c := range samples(113) {
		for _, l := range lines(t, c.a, c.level) {
			got, err := contour.Inside(c.a, l)
			if !l.Closed {
				if err != api.ErrShape || len(got) > 0 {
					t.Error(c, l, got, err)
				}
				continue
			}
			if want := insideOf(c.a, l); err != nil || !slices.Equal(got, want) {
				t.Fatal(c, l, got, err, want)
			}
			closed++
			cells = max(cells, len(got))
			above := map[bool]bool{}
			for _, p := range l.Points {
				for _, cell := range []int{p.A, p.B} {
					if _, in := slices.BinarySearch(got, cell); in {
						above[c.a.L[cell] > c.level] = true
					}
				}
			}
			if len(above) != 1 {
				t.Error(c, l, above)
			}
		}
	}
	if closed < 500 || cells < 20 {
		t.Error("samples are too much alike", closed, cells)
	}
}

// P115: of all levels, no point is in two lines, nor twice in one.
func TestNoPointInCommon(t *testing.T) {
	r := rand.New(rand.NewSource(115))
	for _, size := range []int{1, 2, 9, 30} {
		a := sample(r, 9, 8, size)
		many, err := contour.Many(a, -size-1, 1, 2*size+3, 4)
		if err != nil {
			t.Fatal(err)
		}
		seen := map[contour.Point]int{}
		for level, l := range many {
			for _, line := range l {
				for _, p := range line.Points {
					if other, is := seen[p]; is {
						t.Error(a, p, level, other)
					}
					seen[p] = level
				}
			}
		}
		if len(seen) < 100 {
			t.Error(size, len(seen))
		}
	}
}

// wrongLines: what comes of a closed line by one change each; none is a line of its raster.
func wrongLines(l contour.Line) []contour.Line {
	var out []contour.Line
	change := func(how func(l *contour.Line)) {
		c := copied(l)
		how(&c)
		out = append(out, c)
	}
	change(func(l *contour.Line) { l.Closed = false })
	change(func(l *contour.Line) { l.Points = nil })
	change(func(l *contour.Line) { slices.Reverse(l.Points) })
	change(func(l *contour.Line) { slices.Reverse(l.Points[1:]) })
	change(func(l *contour.Line) { l.Points = append(l.Points, l.Points...) })
	change(func(l *contour.Line) { l.Points = append(l.Points, l.Points[0]) })
	for n := range l.Points {
		change(func(l *contour.Line) { l.Points = slices.Delete(l.Points, n, n+1) })
		change(func(l *contour.Line) { l.Points = slices.Insert(l.Points, n, l.Points[n]) })
		if n > 0 {
			change(func(l *contour.Line) { l.Points = slices.Concat(l.Points[n:], l.Points[:n]) })
			change(func(l *contour.Line) { l.Points[0], l.Points[n] = l.Points[n], l.Points[0] })
		}
		change(func(l *contour.Line) { l.Points[n].A, l.Points[n].B = l.Points[n].B, l.Points[n].A })
		change(func(l *contour.Line) { l.Points[n].Part.Num *= 2; l.Points[n].Part.Den *= 2 })
		change(func(l *contour.Line) { l.Points[n].Part.Num *= -1; l.Points[n].Part.Den *= -1 })
		change(func(l *contour.Line) { l.Points[n].Part.Num = l.Points[n].Part.Den })
		for _, by := range []int{1, -1, math.MaxInt, math.MinInt, 1 << 62} {
			change(func(l *contour.Line) { l.Points[n].A += by })
			change(func(l *contour.Line) { l.Points[n].B += by })
			change(func(l *contour.Line) { l.Points[n].A += by; l.Points[n].B += by })
			change(func(l *contour.Line) { l.Points[n].Part.Num += by })
			change(func(l *contour.Line) { l.Points[n].Part.Den += by })
			change(func(l *contour.Line) { l.Points[n].Part.Num += by; l.Points[n].Part.Den += by })
		}
		for _, f := range []api.Frac{{}, {Num: 1}, {Den: 1}, {Num: 1, Den: -2}, {Num: math.MinInt, Den: math.MinInt}, {Num: math.MaxInt, Den: math.MaxInt}} {
			change(func(l *contour.Line) { l.Points[n].Part = f })
		}
	}
	return out
}

// P113, P114: each wrong line is told, alone and in a list, where it is not an open one.
func TestWrongLines(t *testing.T) {
	checked := 0
	for _, c := range samples(114) {
		if len(c.a.L) > 40 {
			continue
		}
		right := lines(t, c.a, c.level)
		for _, l := range right {
			if !l.Closed {
				continue
			}
			for _, wrong := range wrongLines(l) {
				checked++
				if in, err := contour.Inside(c.a, wrong); err != api.ErrShape || len(in) > 0 {
					t.Fatal(c, wrong, in, err)
				}
				n, err := contour.Nest(c.a, append(slices.Clone(right), wrong))
				if wrong.Closed && (err != api.ErrShape || len(n) > 0) || !wrong.Closed && (err != nil || n[len(right)] != -1) {
					t.Fatal(c, wrong, n, err)
				}
			}
		}
	}
	if checked < 10000 {
		t.Error("samples are too few", checked)
	}
}

// P113: lines of other rasters, edges that run over the rim, and what no raster has.
func TestWrongOnes(t *testing.T) {
	hill := pyramid(3, 3, 1)
	ring := lines(t, hill, 0)[0]
	open := lines(t, raster(2, 1, 0, 0, 0), 0)[0]
	closed := copied(open)
	closed.Closed = true
	peak := flat(5, 5, 0)
	peak.L[12] = 1
	for _, c := range []struct {
		a api.Raster
		l contour.Line
	}{
		{hill, open}, {hill, contour.Line{}}, {hill, contour.Line{Closed: true}},
		{raster(2, 1, 0, 0, 0), closed},
		{pyramid(3, 3, 2), ring}, {pyramid(3, 4, 1), lines(t, pyramid(4, 3, 1), 0)[0]}, {flat(3, 3, 0), ring}, {flat(9, 1, 0), ring}, {flat(1, 9, 0), ring}, {flat(1, 1, 0), ring},
		{raster(9, 0, 1, 0, 1, 0, 1, 0, 1, 0), ring}, {raster(1, 0, 1, 0, 1, 0, 1, 0, 1, 0), ring}, {raster(1, 0, 1), line(true, 1, 2, [2]int{0, 1})},
		{raster(3, 0, 1, 0, 1, 0, 1, 0, 1, 0), line(true, 1, 2, [2]int{2, 3})},
		{raster(3, 0, 1, 0, 1, 0, 1, 0, 1, 0), line(true, 1, 2, [2]int{0, 1})},
		{raster(3, 0, 0, 0, 0, 1, 0, 0, 0, 0), line(true, 1, 2, [2]int{0, 4}, [2]int{0, 4})},
		{raster(3, 0, 0, 0, 0, 1, 0, 0, 0, 0), line(true, 1, 2, [2]int{4, 4})},
		// Cells that are not side by side make triangles as well, but none of the ground.
		{peak, line(true, 1, 2, [2]int{0, 12}, [2]int{10, 12}, [2]int{12, 22}, [2]int{12, 24}, [2]int{12, 14}, [2]int{2, 12})},
		{peak, line(true, 1, 2, [2]int{1, 12}, [2]int{5, 12}, [2]int{12, 16}, [2]int{12, 23}, [2]int{12, 19}, [2]int{8, 12})},
		{hill, line(true, 1, 2, [2]int{-1, 99})}, {hill, line(true, 1, 2, [2]int{99, -1})}, {hill, line(true, 1, 2, [2]int{math.MinInt, math.MaxInt})}, {hill, line(true, 1, 2, [2]int{8, 9})},
	} {
		if in, err := contour.Inside(c.a, c.l); err != api.ErrShape || len(in) > 0 {
			t.Error(c, in, err)
		}
	}
	if in, err := contour.Inside(hill, ring); err != nil || !slices.Equal(in, []int{4}) {
		t.Error(in, err)
	}
}

// P114: rows that were worked out by hand. A pyramid twice as steep has two lines around the same cells.
func TestNest(t *testing.T) {
	a := pyramid(7, 7, 2)
	var l []contour.Line
	for level := range 6 {
		l = append(l, lines(t, a, level)[0])
	}
	open := line(false, 1, 2, [2]int{-5, 77})
	for _, c := range []struct {
		list []contour.Line
		want []int
	}{
		{nil, nil},
		{[]contour.Line{{}}, []int{-1}},
		{[]contour.Line{open, open}, []int{-1, -1}},
		{[]contour.Line{l[0]}, []int{-1}},
		{[]contour.Line{l[0], l[0]}, []int{-1, -1}},
		{[]contour.Line{l[0], l[1]}, []int{-1, -1}},
		{[]contour.Line{l[0], l[2]}, []int{-1, 0}},
		{[]contour.Line{l[2], l[0]}, []int{1, -1}},
		{[]contour.Line{l[0], l[1], l[2], l[3], l[4], l[5]}, []int{-1, -1, 0, 0, 2, 2}},
		{[]contour.Line{l[5], l[4], l[3], l[2], l[1], l[0]}, []int{2, 2, 4, 4, -1, -1}},
		{[]contour.Line{l[5], l[0], open, l[0], l[1]}, []int{1, -1, -1, -1, -1}},
		{[]contour.Line{open, l[3], l[4], l[2], l[4], l[1]}, []int{-1, 5, 1, 5, 1, -1}},
	} {
		if got, err := contour.Nest(a, c.list); err != nil || !slices.Equal(got, c.want) {
			t.Error(got, err, c.want)
		}
	}
}

// nestOf a list, as it is told: each inside is held against each other one.
func nestOf(a api.Raster, l []contour.Line) []int {
	insides := make([][]int, len(l))
	for n, line := range l {
		if line.Closed {
			insides[n] = insideOf(a, line)
		}
	}
	out := make([]int, len(l))
	for n, in := range insides {
		out[n] = -1
		for m, other := range insides {
			if !l[n].Closed || !l[m].Closed || len(other) <= len(in) {
				continue
			}
			all := !slices.ContainsFunc(in, func(cell int) bool { return !slices.Contains(other, cell) })
			if all && (out[n] < 0 || len(other) < len(insides[out[n]])) {
				out[n] = m
			}
		}
	}
	return out
}

// P114: samples: lines of several levels in whatever order, some of them twice, open ones among them.
func TestNestSamples(t *testing.T) {
	r := rand.New(rand.NewSource(114))
	nested := 0
	for n := range 240 {
		size := []int{1, 2, 4, 12}[n%4]
		a := sample(r, 3+r.Intn(8), 3+r.Intn(8), size)
		if n%3 > 0 {
			a = raised(a, 3)
		}
		var l []contour.Line
		for level := -size; level < size+9; level += 1 + size/4 {
			l = append(l, lines(t, a, level)...)
		}
		for range len(l) / 4 {
			l = append(l, l[r.Intn(len(l))])
		}
		r.Shuffle(len(l), func(i, j int) { l[i], l[j] = l[j], l[i] })
		want := nestOf(a, l)
		if got, err := contour.Nest(a, l); err != nil || !slices.Equal(got, want) {
			t.Fatal(a, got, err, want)
		}
		for _, in := range want {
			if in >= 0 {
				nested++
			}
		}
	}
	if nested < 500 {
		t.Error("samples are too much alike", nested)
	}
}

// P114: many lines on the greatest raster.
func TestNestFull(t *testing.T) {
	a := pyramid(api.MaxSide, api.MaxSide, 40)
	many, err := contour.Many(a, 0, 1, 63*40, api.Workers)
	if err != nil {
		t.Fatal(err)
	}
	var l []contour.Line
	for level, found := range many {
		if len(found) != 1 {
			t.Fatal(level, len(found))
		}
		l = append(l, found[0])
	}
	got, err := contour.Nest(a, l)
	if err != nil || len(got) != len(l) {
		t.Fatal(len(got), err)
	}
	for n, in := range got {
		if want := max(n/40*40-40, -1); in != want {
			t.Fatal(n, in, want)
		}
	}
}
