package drain_test

import (
	"math"
	"math/rand"
	"reflect"
	"slices"
	"sync"
	"testing"

	"mercator/api"
	"mercator/drain"
)

// raster of rows that are so wide.
func raster(wide int, l ...int) api.Raster {
	return api.Raster{Wide: wide, High: len(l) / wide, L: l}
}

// flat raster: one height.
func flat(wide, high, height int) api.Raster {
	return api.Raster{Wide: wide, High: high, L: slices.Repeat([]int{height}, wide*high)}
}

// sample: heights at most so great, in size.
func sample(r *rand.Rand, wide, high, size int) api.Raster {
	a := flat(wide, high, 0)
	for i := range a.L {
		a.L[i] = r.Intn(2*size+1) - size
	}
	return a
}

// raised the farther from the rim, so that much gathers and pits are few; or lowered, so that nearly all is a pit.
func raised(a api.Raster, times int) api.Raster {
	out := flat(a.Wide, a.High, 0)
	for cell, height := range a.L {
		col, row := cell%a.Wide, cell/a.Wide
		out.L[cell] = height + times*min(col, row, a.Wide-1-col, a.High-1-row)
	}
	return out
}

// samples of many shapes, from one cell on; heights that are much alike, so that many are equal, and the greatest ones.
func samples(seed int64) []api.Raster {
	r := rand.New(rand.NewSource(seed))
	var out []api.Raster
	for _, s := range [][2]int{{1, 1}, {1, 2}, {2, 1}, {2, 2}, {3, 2}, {2, 3}, {3, 3}, {4, 3}, {3, 4}, {5, 5}, {4, 7}, {1, 9}, {9, 1}, {2, 9}, {9, 2}, {12, 11}, {17, 20}} {
		for _, size := range []int{0, 1, 3, 50, api.MaxHigh} {
			a := sample(r, s[0], s[1], size)
			out = append(out, a)
			if size < api.MaxHigh {
				out = append(out, raised(a, 1), raised(a, -1), raised(a, 2*size), raised(a, -2*size))
			}
		}
	}
	edge := sample(r, 9, 8, 1)
	for i := range edge.L {
		edge.L[i] *= api.MaxHigh
	}
	return append(out, edge, flat(5, 6, api.MaxHigh), flat(6, 5, -api.MaxHigh))
}

// wrongRaster and the error that is told of it.
type wrongRaster struct {
	a   api.Raster
	err error
}

// wrongRasters: what no raster is.
func wrongRasters() []wrongRaster {
	high := func(height int) api.Raster { return raster(2, 1, 2, 3, height) }
	return []wrongRaster{
		{api.Raster{Wide: api.MaxSide + 1, High: 1, L: make([]int, api.MaxSide+1)}, api.ErrBound},
		{api.Raster{Wide: 1, High: api.MaxSide + 1, L: make([]int, api.MaxSide+1)}, api.ErrBound},
		{api.Raster{Wide: math.MaxInt, High: math.MaxInt, L: []int{1}}, api.ErrBound},
		{api.Raster{}, api.ErrShape},
		{api.Raster{Wide: 0, High: 1}, api.ErrShape},
		{api.Raster{Wide: 1, High: 0}, api.ErrShape},
		{api.Raster{Wide: 1, High: 1}, api.ErrShape},
		{api.Raster{Wide: -1, High: -1, L: []int{1}}, api.ErrShape},
		{api.Raster{Wide: math.MinInt, High: math.MinInt}, api.ErrShape},
		{api.Raster{Wide: 3, High: 3, L: make([]int, 8)}, api.ErrShape},
		{api.Raster{Wide: 3, High: 3, L: make([]int, 10)}, api.ErrShape},
		{high(api.MaxHigh + 1), api.ErrRange},
		{high(-api.MaxHigh - 1), api.ErrRange},
		{high(math.MaxInt), api.ErrRange},
		{high(math.MinInt), api.ErrRange},
	}
}

// toward: columns and rows on, of the directions from the east on, against the clock.
func toward() [][2]int {
	return [][2]int{{1, 0}, {1, -1}, {0, -1}, {-1, -1}, {-1, 0}, {-1, 1}, {0, 1}, {1, 1}}
}

// beside a cell, in a direction; -1: there is no cell.
func beside(a api.Raster, cell, direction int) int {
	on := toward()[direction]
	col, row := cell%a.Wide+on[0], cell/a.Wide+on[1]
	if col < 0 || col >= a.Wide || row < 0 || row >= a.High {
		return -1
	}
	return row*a.Wide + col
}

// onRim: is a cell in the first or last row or column?
func onRim(a api.Raster, cell int) bool {
	col, row := cell%a.Wide, cell/a.Wide
	return col == 0 || row == 0 || col == a.Wide-1 || row == a.High-1
}

// rimOf a raster: its cells, rising.
func rimOf(a api.Raster) []int {
	var out []int
	for cell := range a.L {
		if onRim(a, cell) {
			out = append(out, cell)
		}
	}
	return out
}

// floodOf a raster, as it is told: all that wait are looked through for the one that is taken.
func floodOf(a api.Raster) (level, flow, order []int) {
	const strange, waits, taken = 0, 1, 2
	state := make([]int, len(a.L))
	level, flow = make([]int, len(a.L)), make([]int, len(a.L))
	var line []int
	for _, cell := range rimOf(a) {
		state[cell], level[cell], flow[cell] = waits, a.L[cell], 8
		line = append(line, cell)
	}
	for len(line) > 0 {
		best := 0
		for n, cell := range line {
			if level[cell] < level[line[best]] || level[cell] == level[line[best]] && cell < line[best] {
				best = n
			}
		}
		cell := line[best]
		line = slices.Delete(line, best, best+1)
		state[cell] = taken
		order = append(order, cell)
		for direction := range 8 {
			other := beside(a, cell, direction)
			if other < 0 || state[other] != strange {
				continue
			}
			state[other], level[other] = waits, max(a.L[other], level[cell])
			for back := range 8 {
				if beside(a, other, back) == cell {
					flow[other] = back
				}
			}
			line = append(line, other)
		}
	}
	return level, flow, order
}

// checkFlood of a raster.
func checkFlood(t *testing.T, a api.Raster, level, flow, order []int) {
	t.Helper()
	full, err := drain.Fill(a)
	if err != nil || full.Wide != a.Wide || full.High != a.High || !slices.Equal(full.L, level) {
		t.Error("Fill", a, full, err, level)
	}
	if got, err := drain.Flow(a); err != nil || !slices.Equal(got, flow) {
		t.Error("Flow", a, got, err, flow)
	}
	if got, err := drain.Order(a); err != nil || !slices.Equal(got, order) {
		t.Error("Order", a, got, err, order)
	}
}

// P120: the middle of nine flows into the lowest one, in each direction; all others are of the rim.
func TestNeighbours(t *testing.T) {
	for low, want := range []int{api.NorthWest, api.North, api.NorthEast, api.West, -1, api.East, api.SouthWest, api.South, api.SouthEast} {
		if want < 0 {
			continue
		}
		a := flat(3, 3, 7)
		a.L[low] = 1
		flow := slices.Repeat([]int{api.Sink}, 9)
		flow[4] = want
		if got, err := drain.Flow(a); err != nil || !slices.Equal(got, flow) {
			t.Error(low, got, err, flow)
		}
	}
}

// P120: all cells of samples, in all directions, and in what is none.
func TestNeighbourSamples(t *testing.T) {
	for _, a := range samples(120) {
		for cell := range a.L {
			for direction := range 8 {
				want := beside(a, cell, direction)
				if got, ok := drain.Neighbour(a, cell, direction); ok != (want >= 0) || got != max(want, 0) {
					t.Error(a, cell, direction, got, ok, want)
				}
			}
			for _, direction := range []int{-1, api.Sink, api.Sink + 1, math.MaxInt, math.MinInt} {
				if got, ok := drain.Neighbour(a, cell, direction); ok || got != 0 {
					t.Error(a, cell, direction, got)
				}
			}
			if got := drain.OnRim(a, cell); got != onRim(a, cell) {
				t.Error(a, cell, got)
			}
		}
	}
}

// P1: what is no raster, and no cell of one, has no neighbours.
func TestNoNeighbours(t *testing.T) {
	for _, a := range []api.Raster{{}, {Wide: 3, High: 3}, {Wide: 0, High: 1, L: []int{1}}, {Wide: -1, High: -1, L: []int{1}}, {Wide: math.MinInt, High: math.MaxInt, L: []int{1}}} {
		for _, cell := range []int{-1, 0, 1, math.MaxInt, math.MinInt} {
			if got, ok := drain.Neighbour(a, cell, api.South); ok || got != 0 || !drain.OnRim(a, cell) {
				t.Error(a, cell, got, ok)
			}
		}
	}
	a := flat(3, 3, 0)
	for _, cell := range []int{-1, -5, 9, 13, math.MaxInt, math.MinInt} {
		if got, ok := drain.Neighbour(a, cell, api.North); ok || got != 0 || !drain.OnRim(a, cell) {
			t.Error(cell, got, ok)
		}
	}
}

// P120: where a side is 1 or 2, all cells are of the rim: each keeps its height, and they are taken by height, then by number.
func TestAllRim(t *testing.T) {
	for _, a := range []api.Raster{
		raster(1, 5),
		raster(1, 3, 1, 2),
		raster(3, 3, 1, 2),
		raster(2, 5, 5, 5, 5),
		raster(2, 4, -3, 2, 4, 2, 0),
		raster(3, 4, -3, 2, 4, 2, 0),
		raster(9, 9, 8, 7, 6, 5, 4, 3, 2, 1, 1, 2, 3, 4, 5, 6, 7, 8, 9),
	} {
		order := make([]int, len(a.L))
		for cell := range order {
			order[cell] = cell
		}
		slices.SortStableFunc(order, func(x, y int) int { return a.L[x] - a.L[y] })
		checkFlood(t, a, a.L, slices.Repeat([]int{api.Sink}, len(a.L)), order)
	}
}

// P121: worked out by hand.
func TestFlood(t *testing.T) {
	for _, c := range []struct {
		a                  api.Raster
		level, flow, order []int
	}{
		// Of equal heights the least number is taken: all goes to the north west.
		{flat(3, 3, 0), make([]int, 9), []int{8, 8, 8, 8, 3, 8, 8, 8, 8}, []int{0, 1, 2, 3, 4, 5, 6, 7, 8}},
		{flat(4, 4, -2), slices.Repeat([]int{-2}, 16), []int{8, 8, 8, 8, 8, 3, 3, 8, 8, 3, 3, 8, 8, 8, 8, 8}, []int{0, 1, 2, 3, 4, 5, 6, 7, 8, 9, 10, 11, 12, 13, 14, 15}},
		// One pit that flows over to the south east, and one as high as all around it.
		{raster(5,
			9, 9, 9, 9, 9,
			9, 0, 9, 1, 9,
			9, 9, 9, 9, 3,
			9, 9, 9, 9, 9,
		), []int{
			9, 9, 9, 9, 9,
			9, 9, 9, 3, 9,
			9, 9, 9, 9, 3,
			9, 9, 9, 9, 9,
		}, []int{
			8, 8, 8, 8, 8,
			8, 3, 0, 7, 8,
			8, 3, 1, 0, 8,
			8, 8, 8, 8, 8,
		}, []int{14, 8, 0, 1, 2, 3, 4, 5, 6, 7, 9, 10, 11, 12, 13, 15, 16, 17, 18, 19}},
		// A cell flows where it came to wait first, though another cell of the rim is as low, and nearer.
		{raster(4,
			5, 5, 5, 5,
			5, 1, 1, 2,
			5, 1, 1, 2,
			5, 5, 5, 5,
		), []int{
			5, 5, 5, 5,
			5, 2, 2, 2,
			5, 2, 2, 2,
			5, 5, 5, 5,
		}, []int{
			8, 8, 8, 8,
			8, 0, 0, 8,
			8, 1, 1, 8,
			8, 8, 8, 8,
		}, []int{7, 6, 5, 9, 10, 11, 0, 1, 2, 3, 4, 8, 12, 13, 14, 15}},
		{raster(3, api.MaxHigh, api.MaxHigh, api.MaxHigh, api.MaxHigh, -api.MaxHigh, api.MaxHigh, api.MaxHigh, api.MaxHigh, api.MaxHigh), slices.Repeat([]int{api.MaxHigh}, 9), []int{8, 8, 8, 8, 3, 8, 8, 8, 8}, []int{0, 1, 2, 3, 4, 5, 6, 7, 8}},
	} {
		checkFlood(t, c.a, c.level, c.flow, c.order)
	}
}

// P121: samples, held against all that wait being looked through.
func TestFloodSamples(t *testing.T) {
	for _, a := range samples(121) {
		level, flow, order := floodOf(a)
		checkFlood(t, a, level, flow, order)
	}
}

// P121: the greatest raster.
func TestFloodGreatest(t *testing.T) {
	r := rand.New(rand.NewSource(1210))
	for _, size := range []int{0, 3, api.MaxHigh} {
		a := sample(r, api.MaxSide, api.MaxSide, size)
		level, flow, order := floodOf(a)
		checkFlood(t, a, level, flow, order)
	}
}

// pit that flows over to the east.
func pit() api.Raster {
	return raster(4,
		9, 9, 9, 9,
		9, 2, 5, 4,
		9, 3, 8, 9,
		9, 9, 9, 9)
}

// rainy: rain on each cell of a raster.
func rainy(r *rand.Rand, a api.Raster) []int {
	rain := make([]int, len(a.L))
	for cell := range rain {
		rain[cell] = r.Intn(api.MaxHigh + 1)
	}
	return rain
}

// P122: worked out by hand; no rain, and the most that there is.
func TestGather(t *testing.T) {
	for _, c := range []struct {
		a          api.Raster
		rain, want []int
	}{
		{pit(), []int{1, 1, 1, 1, 1, 10, 100, 1000, 1, 20, 200, 1, 1, 1, 1, 1}, []int{1, 1, 1, 1, 1, 10, 130, 1330, 1, 20, 200, 1, 1, 1, 1, 1}},
		{pit(), make([]int, 16), make([]int, 16)},
		{raster(1, 5), []int{7}, []int{7}},
		{raster(3, 9, 9, 9, 9, 0, 9, 9, 9, 1), []int{1, 2, 3, 4, 5, 6, 7, 8, 9}, []int{1, 2, 3, 4, 5, 6, 7, 8, 14}},
	} {
		if got, err := drain.Gather(c.a, c.rain); err != nil || !slices.Equal(got, c.want) {
			t.Error(c.a, c.rain, got, err, c.want)
		}
	}
	a := raised(flat(api.MaxSide, api.MaxSide, 0), 2)
	for cell := range a.L {
		a.L[cell] += cell / api.MaxSide
	}
	a.L[0] = -1
	for _, cell := range rimOf(a)[1:] { // one way out
		a.L[cell] = api.MaxHigh
	}
	got, err := drain.Gather(a, slices.Repeat([]int{api.MaxHigh}, len(a.L)))
	if want := api.MaxHigh * (126*126 + 1); err != nil || got[0] != want {
		t.Error(got[0], err, want)
	}
}

// P122, P123: samples: what rains on a cell comes to all of its way.
func TestGatherSamples(t *testing.T) {
	r := rand.New(rand.NewSource(122))
	for _, a := range samples(122) {
		rain, want := rainy(r, a), make([]int, len(a.L))
		_, flow, _ := floodOf(a)
		for cell, drops := range rain {
			want[cell] += drops
			way := []int{cell}
			for on := cell; flow[on] != api.Sink; {
				on = beside(a, on, flow[on])
				want[on] += drops
				way = append(way, on)
			}
			if got, err := drain.Way(a, cell); err != nil || !slices.Equal(got, way) {
				t.Fatal(a, cell, got, err, way)
			}
		}
		if got, err := drain.Gather(a, rain); err != nil || !slices.Equal(got, want) {
			t.Fatal(a, rain, got, err, want)
		}
	}
}

// P122: rain that cannot be.
func TestGatherShape(t *testing.T) {
	for _, a := range samples(1220) {
		wrong := [][]int{nil, {}, make([]int, len(a.L)-1), make([]int, len(a.L)+1), make([]int, 2*len(a.L))}
		for _, drops := range []int{-1, api.MaxHigh + 1, math.MaxInt, math.MinInt} {
			for _, cell := range []int{0, len(a.L) / 2, len(a.L) - 1} {
				rain := make([]int, len(a.L))
				rain[cell] = drops
				wrong = append(wrong, rain)
			}
		}
		for _, rain := range wrong {
			if got, err := drain.Gather(a, rain); err != api.ErrShape || len(got) > 0 {
				t.Error(a, rain, got, err)
			}
		}
	}
}

// P123: worked out by hand: through a pit, and on the rim, where it ends at once.
func TestWay(t *testing.T) {
	for _, c := range []struct {
		a    api.Raster
		cell int
		want []int
	}{
		{pit(), 9, []int{9, 6, 7}},
		{pit(), 5, []int{5, 6, 7}},
		{pit(), 10, []int{10, 7}},
		{pit(), 7, []int{7}},
		{pit(), 0, []int{0}},
		{pit(), 15, []int{15}},
		{raster(1, 3), 0, []int{0}},
		{raster(2, 1, 2, 3, 4), 3, []int{3}},
	} {
		if got, err := drain.Way(c.a, c.cell); err != nil || !slices.Equal(got, c.want) {
			t.Error(c.a, c.cell, got, err, c.want)
		}
	}
}

// P123: no cell.
func TestWayRange(t *testing.T) {
	for _, a := range samples(123) {
		for _, cell := range []int{-1, len(a.L), len(a.L) + 1, -a.Wide, math.MaxInt, math.MinInt} {
			if got, err := drain.Way(a, cell); err != api.ErrRange || len(got) > 0 {
				t.Error(a, cell, got, err)
			}
		}
	}
}

// P121 to P125: what is wrong with a raster is told first, and nothing else with it.
func TestWrongRasters(t *testing.T) {
	for _, w := range wrongRasters() {
		if got, err := drain.Fill(w.a); err != w.err || got.Wide != 0 || got.High != 0 || len(got.L) > 0 {
			t.Error("Fill", w, got, err)
		}
		if got, err := drain.Flow(w.a); err != w.err || len(got) > 0 {
			t.Error("Flow", w, got, err)
		}
		if got, err := drain.Order(w.a); err != w.err || len(got) > 0 {
			t.Error("Order", w, got, err)
		}
		for _, rain := range [][]int{nil, make([]int, len(w.a.L)), {-1}} {
			if got, err := drain.Gather(w.a, rain); err != w.err || len(got) > 0 {
				t.Error("Gather", w, got, err)
			}
		}
		for _, n := range []int{-1, 0, 1, math.MaxInt, math.MinInt} {
			if got, err := drain.Way(w.a, n); err != w.err || len(got) > 0 {
				t.Error("Way", w, n, got, err)
			}
			if got, err := drain.Streams(w.a, n); err != w.err || len(got) > 0 {
				t.Error("Streams", w, n, got, err)
			}
			if got, err := drain.Strahler(w.a, n); err != w.err || len(got) > 0 {
				t.Error("Strahler", w, n, got, err)
			}
		}
	}
}

// lowest height of each cell up to which one must go on some path to the rim: lowered again and again, until nothing is lowered any more.
func lowest(a api.Raster) []int {
	out := slices.Repeat([]int{math.MaxInt}, len(a.L))
	for lowered := true; lowered; {
		lowered = false
		for cell, height := range a.L {
			best := math.MinInt
			if !onRim(a, cell) {
				best = math.MaxInt
				for direction := range 8 {
					best = min(best, out[beside(a, cell, direction)])
				}
			}
			if best = max(best, height); best < out[cell] {
				out[cell], lowered = best, true
			}
		}
	}
	return out
}

// P126: samples.
func TestAlways(t *testing.T) {
	r := rand.New(rand.NewSource(126))
	pits := 0
	for _, a := range samples(126) {
		full, err := drain.Fill(a)
		if want := lowest(a); err != nil || !slices.Equal(full.L, want) {
			t.Fatal(a, full, err, want)
		}
		for cell, height := range a.L {
			if full.L[cell] < height {
				t.Error(a, cell, full.L[cell])
			}
			if full.L[cell] > height {
				pits++
			}
			way, err := drain.Way(a, cell)
			if err != nil || way[0] != cell || !onRim(a, way[len(way)-1]) {
				t.Fatal(a, cell, way, err)
			}
			for n := 1; n < len(way); n++ {
				if full.L[way[n]] > full.L[way[n-1]] || onRim(a, way[n-1]) {
					t.Error(a, cell, way, full)
				}
			}
		}
		rain := rainy(r, a)
		much, err := drain.Gather(a, rain)
		if err != nil {
			t.Fatal(a, err)
		}
		left := 0
		for _, cell := range rimOf(a) {
			left += much[cell]
		}
		for _, drops := range rain {
			left -= drops
		}
		if left != 0 {
			t.Error(a, rain, much, left)
		}
	}
	if pits < 1000 {
		t.Error("samples are too much alike", pits)
	}
}

// told: what is answered of a raster.
type told struct {
	full                     api.Raster
	flow, order, much, ranks []int
	ways, reaches            [][]int
}

// tell all of a raster, and the ways from some of its cells.
func tell(a api.Raster, rain []int) told {
	var out told
	out.full, _ = drain.Fill(a)
	out.flow, _ = drain.Flow(a)
	out.order, _ = drain.Order(a)
	out.much, _ = drain.Gather(a, rain)
	out.ranks, _ = drain.Strahler(a, 2)
	out.reaches, _ = drain.Streams(a, 2)
	for _, cell := range []int{0, len(a.L) / 3, len(a.L) / 2, len(a.L) - 1} {
		way, _ := drain.Way(a, cell)
		out.ways = append(out.ways, way)
	}
	return out
}

// spoil an answer, behind its lists' lengths, too.
func (o told) spoil() {
	for _, l := range append(append([][]int{o.full.L, o.flow, o.order, o.much, o.ranks}, o.ways...), o.reaches...) {
		l = l[:cap(l)]
		for i := range l {
			l[i] = -99
		}
	}
}

// roomy: a copy with memory behind its length.
func roomy(l []int) []int {
	return append(slices.Clone(l), slices.Repeat([]int{-77}, 50)...)[:len(l)]
}

// P2, P4: what is handed over is only read, and what is answered is nobody else's.
func TestMemory(t *testing.T) {
	r := rand.New(rand.NewSource(4))
	for _, a := range samples(124) {
		rain := roomy(rainy(r, a))
		a.L = roomy(a.L)
		keptA, keptRain := slices.Clone(a.L[:cap(a.L)]), slices.Clone(rain[:cap(rain)])
		tell(a, rain).spoil()
		first := tell(a, rain)
		if !slices.Equal(a.L[:cap(a.L)], keptA) || !slices.Equal(rain[:cap(rain)], keptRain) {
			t.Fatal("what was handed over is changed", a, rain)
		}
		again := tell(api.Raster{Wide: a.Wide, High: a.High, L: slices.Clone(a.L)}, slices.Clone(rain))
		for cell := range a.L {
			a.L[cell], rain[cell] = 3, 3
		}
		if !reflect.DeepEqual(first, again) {
			t.Fatal("what was answered is changed", first, again)
		}
	}
}

// P4: no two lists of one answer share memory.
func TestReachesShareNothing(t *testing.T) {
	for _, a := range samples(1240) {
		l, err := drain.Streams(a, 1)
		if err != nil {
			t.Fatal(a, err)
		}
		kept := make([][]int, len(l))
		for n := range l {
			kept[n] = slices.Clone(l[n])
		}
		for n := range l {
			whole := l[n][:cap(l[n])]
			for i := range whole {
				whole[i] = -5
			}
			for later := n + 1; later < len(l); later++ {
				if !slices.Equal(l[later], kept[later]) {
					t.Fatal(a, n, later)
				}
			}
		}
	}
}

// P2: calls side by side answer what one alone does.
func TestSideBySide(t *testing.T) {
	a := sample(rand.New(rand.NewSource(2)), 20, 20, 9)
	rain := slices.Repeat([]int{3}, len(a.L))
	want := tell(a, rain)
	got := make([]told, 8)
	var busy sync.WaitGroup
	for n := range got {
		busy.Go(func() { got[n] = tell(a, rain) })
	}
	busy.Wait()
	for n := range got {
		if !reflect.DeepEqual(got[n], want) {
			t.Error(n)
		}
	}
}
