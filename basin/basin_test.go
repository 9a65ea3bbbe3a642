package basin_test

import (
	"cmp"
	"math"
	"math/rand"
	"reflect"
	"slices"
	"sync"
	"testing"

	"mercator/api"
	"mercator/basin"
	"mercator/drain"
)

// raster of rows that are so wide.
func raster(wide int, l ...int) api.Raster {
	return api.Raster{Wide: wide, High: len(l) / wide, L: l}
}

// flat raster: one height.
func flat(wide, high, height int) api.Raster {
	return api.Raster{Wide: wide, High: high, L: slices.Repeat([]int{height}, wide*high)}
}

// sample: heights at most so great, in size.
func sample(r *rand.Rand, wide, high, size int) api.Raster {
	a := flat(wide, high, 0)
	for i := range a.L {
		a.L[i] = r.Intn(2*size+1) - size
	}
	return a
}

// raised the farther from the rim, so that basins are great; or lowered, so that lakes are.
func raised(a api.Raster, times int) api.Raster {
	out := flat(a.Wide, a.High, 0)
	for cell, height := range a.L {
		col, row := cell%a.Wide, cell/a.Wide
		out.L[cell] = height + times*min(col, row, a.Wide-1-col, a.High-1-row)
	}
	return out
}

// samples of many shapes, from one cell on; heights that are much alike, so that many are equal, and the greatest ones.
func samples(seed int64) []api.Raster {
	r := rand.New(rand.NewSource(seed))
	var out []api.Raster
	for _, s := range [][2]int{{1, 1}, {1, 2}, {2, 1}, {2, 2}, {3, 2}, {2, 3}, {3, 3}, {4, 3}, {3, 4}, {5, 5}, {4, 7}, {1, 9}, {9, 1}, {2, 9}, {9, 2}, {12, 11}, {13, 17}} {
		for _, size := range []int{0, 1, 3, 50, api.MaxHigh} {
			a := sample(r, s[0], s[1], size)
			out = append(out, a)
			if size < api.MaxHigh {
				out = append(out, raised(a, 1), raised(a, -1), raised(a, 2*size), raised(a, -2*size))
			}
		}
	}
	edge := sample(r, 9, 8, 1)
	for i := range edge.L {
		edge.L[i] *= api.MaxHigh
	}
	return append(out, edge, flat(5, 6, api.MaxHigh), flat(6, 5, -api.MaxHigh))
}

// wrongRaster and the error that is told of it.
type wrongRaster struct {
	a   api.Raster
	err error
}

// wrongRasters: what no raster is.
func wrongRasters() []wrongRaster {
	high := func(height int) api.Raster { return raster(2, 1, 2, 3, height) }
	return []wrongRaster{
		{api.Raster{Wide: api.MaxSide + 1, High: 1, L: make([]int, api.MaxSide+1)}, api.ErrBound},
		{api.Raster{Wide: 1, High: api.MaxSide + 1, L: make([]int, api.MaxSide+1)}, api.ErrBound},
		{api.Raster{Wide: math.MaxInt, High: math.MaxInt, L: []int{1}}, api.ErrBound},
		{api.Raster{}, api.ErrShape},
		{api.Raster{Wide: 0, High: 1}, api.ErrShape},
		{api.Raster{Wide: 1, High: 0}, api.ErrShape},
		{api.Raster{Wide: 1, High: 1}, api.ErrShape},
		{api.Raster{Wide: -1, High: -1, L: []int{1}}, api.ErrShape},
		{api.Raster{Wide: math.MinInt, High: math.MinInt}, api.ErrShape},
		{api.Raster{Wide: 3, High: 3, L: make([]int, 8)}, api.ErrShape},
		{api.Raster{Wide: 3, High: 3, L: make([]int, 10)}, api.ErrShape},
		{high(api.MaxHigh + 1), api.ErrRange},
		{high(-api.MaxHigh - 1), api.ErrRange},
		{high(math.MaxInt), api.ErrRange},
		{high(math.MinInt), api.ErrRange},
	}
}

// onRim: is a cell in the first or last row or column?
func onRim(a api.Raster, cell int) bool {
	col, row := cell%a.Wide, cell/a.Wide
	return col == 0 || row == 0 || col == a.Wide-1 || row == a.High-1
}

// apart: by how many columns and rows are two cells apart?
func apart(a api.Raster, one, other int) (cols, rows int) {
	cols, rows = one%a.Wide-other%a.Wide, one/a.Wide-other/a.Wide
	return max(cols, -cols), max(rows, -rows)
}

// aroundIt: the cells, rising, that are neighbours of one.
func aroundIt(a api.Raster, cell int) []int {
	var out []int
	for row := cell/a.Wide - 1; row <= cell/a.Wide+1; row++ {
		for col := cell%a.Wide - 1; col <= cell%a.Wide+1; col++ {
			if other := row*a.Wide + col; row >= 0 && row < a.High && col >= 0 && col < a.Wide && other != cell {
				out = append(out, other)
			}
		}
	}
	return out
}

// basinsOf a raster, by going each cell's way.
func basinsOf(t *testing.T, a api.Raster) []int {
	t.Helper()
	var out []int
	for cell := range a.L {
		way, err := drain.Way(a, cell)
		if err != nil {
			t.Fatal(a, cell, err)
		}
		out = append(out, way[len(way)-1])
	}
	return out
}

// pit that flows over to the east.
func pit() api.Raster {
	return raster(4,
		9, 9, 9, 9,
		9, 2, 5, 4,
		9, 3, 8, 9,
		9, 9, 9, 9)
}

// ridge from the north to the south, between two basins that begin at cells 10 and 14, and touch in the middle alone.
func ridge() api.Raster {
	return raster(5,
		9, 9, 9, 9, 9,
		9, 4, 8, 5, 9,
		1, 2, 7, 4, 3,
		9, 5, 8, 6, 9,
		9, 9, 9, 9, 9)
}

// P130: worked out by hand: pits, too, go to where they flow over; where all is of the rim, each cell is a basin.
func TestBasins(t *testing.T) {
	for _, c := range []struct {
		a    api.Raster
		want []int
	}{
		{pit(), []int{0, 1, 2, 3, 4, 7, 7, 7, 8, 7, 7, 11, 12, 13, 14, 15}},
		{ridge(), []int{0, 1, 2, 3, 4, 5, 10, 10, 14, 9, 10, 10, 10, 14, 14, 15, 10, 10, 14, 19, 20, 21, 22, 23, 24}},
		{flat(3, 3, 0), []int{0, 1, 2, 3, 0, 5, 6, 7, 8}},
		{flat(4, 4, 7), []int{0, 1, 2, 3, 4, 0, 1, 7, 8, 4, 0, 11, 12, 13, 14, 15}},
		{raster(1, 5), []int{0}},
		{raster(1, 3, 1, 2), []int{0, 1, 2}},
		{raster(3, 3, 1, 2), []int{0, 1, 2}},
		{raster(2, 4, -3, 2, 4, 2, 0), []int{0, 1, 2, 3, 4, 5}},
	} {
		if got, err := basin.Basins(c.a); err != nil || !slices.Equal(got, c.want) {
			t.Error(c.a, got, err, c.want)
		}
	}
}

// P130: samples, the greatest raster among them, held against each cell's way.
func TestBasinsSamples(t *testing.T) {
	for _, a := range samples(130) {
		want := basinsOf(t, a)
		if got, err := basin.Basins(a); err != nil || !slices.Equal(got, want) {
			t.Error(a, got, err, want)
		}
	}
	a := raised(sample(rand.New(rand.NewSource(1300)), api.MaxSide, api.MaxSide, 40), 3)
	got, err := basin.Basins(a)
	if err != nil || len(got) != len(a.L) {
		t.Fatal(len(got), err)
	}
	for cell := 0; cell < len(a.L); cell += 331 {
		if way, err := drain.Way(a, cell); err != nil || got[cell] != way[len(way)-1] {
			t.Error(cell, got[cell], way, err)
		}
	}
}

// P132: worked out by hand: neighbours across a corner are none of it.
func TestDivides(t *testing.T) {
	for _, c := range []struct {
		a    api.Raster
		want [][2]int
	}{
		{raster(1, 5), nil},
		{raster(1, 3, 1, 2), [][2]int{{0, 1}, {1, 2}}},
		{raster(3, 3, 1, 2), [][2]int{{0, 1}, {1, 2}}},
		{raster(2, 5, 5, 5, 5), [][2]int{{0, 1}, {0, 2}, {1, 3}, {2, 3}}},
		{flat(3, 3, 0), [][2]int{{0, 1}, {0, 3}, {1, 2}, {1, 4}, {2, 5}, {3, 4}, {3, 6}, {4, 5}, {4, 7}, {5, 8}, {6, 7}, {7, 8}}},
		{pit(), [][2]int{{0, 1}, {0, 4}, {1, 2}, {1, 5}, {2, 3}, {2, 6}, {3, 7}, {4, 5}, {4, 8}, {7, 11}, {8, 9}, {8, 12}, {9, 13}, {10, 11}, {10, 14}, {11, 15}, {12, 13}, {13, 14}, {14, 15}}},
	} {
		if got, err := basin.Divides(c.a); err != nil || !slices.Equal(got, c.want) {
			t.Error(c.a, got, err, c.want)
		}
	}
}

// P132: samples: all pairs of cells are looked at.
func TestDividesSamples(t *testing.T) {
	for _, a := range samples(132) {
		basins := basinsOf(t, a)
		var want [][2]int
		for one := range a.L {
			for other := one + 1; other < len(a.L); other++ {
				cols, rows := apart(a, one, other)
				if cols+rows == 1 && basins[one] != basins[other] {
					want = append(want, [2]int{one, other})
				}
			}
		}
		if got, err := basin.Divides(a); err != nil || !slices.Equal(got, want) {
			t.Error(a, got, err, want)
		}
	}
}

// P133: worked out by hand: the least of the greater heights, across corners, too.
func TestPasses(t *testing.T) {
	for _, c := range []struct {
		a    api.Raster
		want []basin.Pass
	}{
		{raster(1, 5), nil},
		{raster(1, 3, 1, 2), []basin.Pass{{0, 1, 3}, {1, 2, 2}}},
		{raster(3, -3, -1, -2), []basin.Pass{{0, 1, -1}, {1, 2, -1}}},
		{raster(2, 1, 2, 3, 4), []basin.Pass{{0, 1, 2}, {0, 2, 3}, {0, 3, 4}, {1, 2, 3}, {1, 3, 4}, {2, 3, 4}}},
		{raster(3, 1, 7, 2, 5, 9, 6, 3, 8, 4), []basin.Pass{{0, 1, 7}, {0, 2, 9}, {0, 3, 5}, {0, 5, 9}, {0, 6, 9}, {0, 7, 9}, {0, 8, 9}, {1, 2, 7}, {1, 3, 7}, {1, 5, 7}, {2, 5, 6}, {3, 6, 5}, {3, 7, 8}, {5, 7, 8}, {5, 8, 6}, {6, 7, 8}, {7, 8, 8}}},
	} {
		if got, err := basin.Passes(c.a); err != nil || !slices.Equal(got, c.want) {
			t.Error(c.a, got, err, c.want)
		}
	}
	got, err := basin.Passes(ridge())
	if err != nil || !slices.Contains(got, basin.Pass{A: 10, B: 14, High: 7}) {
		t.Error(got, err)
	}
}

// passesOf a raster: all pairs of cells are looked at, and all that two basins have are sorted.
func passesOf(t *testing.T, a api.Raster) []basin.Pass {
	t.Helper()
	basins := basinsOf(t, a)
	var all []basin.Pass
	for one := range a.L {
		for _, other := range aroundIt(a, one) {
			if basins[one] < basins[other] {
				all = append(all, basin.Pass{A: basins[one], B: basins[other], High: max(a.L[one], a.L[other])})
			}
		}
	}
	slices.SortFunc(all, func(p, q basin.Pass) int {
		return cmp.Or(cmp.Compare(p.A, q.A), cmp.Compare(p.B, q.B), cmp.Compare(p.High, q.High))
	})
	return slices.CompactFunc(all, func(p, q basin.Pass) bool { return p.A == q.A && p.B == q.B })
}

// P133: samples.
func TestPassesSamples(t *testing.T) {
	for _, a := range samples(133) {
		want := passesOf(t, a)
		if got, err := basin.Passes(a); err != nil || !slices.Equal(got, want) {
			t.Error(a, got, err, want)
		}
	}
}

// P134: worked out by hand: a pass at just that height is open; below all passes each basin is alone.
func TestJoined(t *testing.T) {
	a := raster(3, 1, 7, 2, 5, 9, 6, 3, 8, 4)
	each := [][]int{{0}, {1}, {2}, {3}, {5}, {6}, {7}, {8}}
	for _, c := range []struct {
		a     api.Raster
		level int
		want  [][]int
	}{
		{a, math.MinInt, each},
		{a, 4, each},
		{a, 5, [][]int{{0, 3, 6}, {1}, {2}, {5}, {7}, {8}}},
		{a, 6, [][]int{{0, 3, 6}, {1}, {2, 5, 8}, {7}}},
		{a, 7, [][]int{{0, 1, 2, 3, 5, 6, 8}, {7}}},
		{a, 8, [][]int{{0, 1, 2, 3, 5, 6, 7, 8}}},
		{a, math.MaxInt, [][]int{{0, 1, 2, 3, 5, 6, 7, 8}}},
		{raster(1, 5), 4, [][]int{{0}}},
		{raster(1, 5), 5, [][]int{{0}}},
		{raster(5, -2, -9, 3, -8, -2), -2, [][]int{{0, 1}, {2}, {3, 4}}},
		{raster(1, -2, -9, 3, -8, -2), -3, [][]int{{0}, {1}, {2}, {3}, {4}}},
	} {
		if got, err := basin.Joined(c.a, c.level); err != nil || !reflect.DeepEqual(got, c.want) {
			t.Error(c.a, c.level, got, err, c.want)
		}
	}
}

// joinedOf a raster and its passes: each basin takes the least name of those that it belongs to, until nothing changes.
func joinedOf(a api.Raster, passes []basin.Pass, level int) [][]int {
	name := make([]int, len(a.L))
	for cell := range name {
		name[cell] = cell
	}
	for changed := true; changed; {
		changed = false
		for _, p := range passes {
			if p.High <= level && name[p.A] != name[p.B] {
				name[p.A] = min(name[p.A], name[p.B])
				name[p.B], changed = name[p.A], true
			}
		}
	}
	var out [][]int
	for first := range a.L {
		var list []int
		for cell := range a.L {
			if onRim(a, cell) && name[cell] == first {
				list = append(list, cell)
			}
		}
		if list != nil {
			out = append(out, list)
		}
	}
	return out
}

// P134: samples, at levels from below all heights to above them.
func TestJoinedSamples(t *testing.T) {
	some := 0
	for _, a := range samples(134) {
		low, high, passes := slices.Min(a.L), slices.Max(a.L), passesOf(t, a)
		for _, level := range []int{low - 1, low, low + (high-low)/3, low + (high-low)/2, high - 1, high} {
			want := joinedOf(a, passes, level)
			got, err := basin.Joined(a, level)
			if err != nil || !reflect.DeepEqual(got, want) {
				t.Error(a, level, got, err, want)
			}
			if len(got) > 3 && len(got[0]) > 3 {
				some++
			}
		}
	}
	if some < 10 {
		t.Error("samples are too much alike", some)
	}
}

// P132 to P134: the greatest raster.
func TestGreatest(t *testing.T) {
	a := sample(rand.New(rand.NewSource(1330)), api.MaxSide, api.MaxSide, 1000)
	around := 4 * (api.MaxSide - 1)
	if got, err := basin.Divides(a); err != nil || len(got) < around {
		t.Error(len(got), err)
	}
	if got, err := basin.Passes(a); err != nil || len(got) < around {
		t.Error(len(got), err)
	}
	if got, err := basin.Joined(a, 1000); err != nil || len(got) != 1 || len(got[0]) != around {
		t.Error(len(got), err)
	}
}

// P130 to P135: what is wrong with a raster is told first, and nothing else with it.
func TestWrongRasters(t *testing.T) {
	for _, w := range wrongRasters() {
		if got, err := basin.Basins(w.a); err != w.err || len(got) > 0 {
			t.Error("Basins", w, got, err)
		}
		if got, err := basin.Lakes(w.a); err != w.err || len(got) > 0 {
			t.Error("Lakes", w, got, err)
		}
		if got, err := basin.Divides(w.a); err != w.err || len(got) > 0 {
			t.Error("Divides", w, got, err)
		}
		if got, err := basin.Passes(w.a); err != w.err || len(got) > 0 {
			t.Error("Passes", w, got, err)
		}
		for _, lake := range [][]int{nil, {0}, {-1, math.MaxInt}} {
			if deepest, all, err := basin.Depth(w.a, lake); err != w.err || deepest != 0 || all != 0 {
				t.Error("Depth", w, lake, deepest, all, err)
			}
		}
		for _, n := range []int{-1, 0, 1, math.MaxInt, math.MinInt} {
			if got, err := basin.Joined(w.a, n); err != w.err || len(got) > 0 {
				t.Error("Joined", w, n, got, err)
			}
			for _, water := range []int{-1, 0, 5, math.MaxInt} {
				if high, cells, err := basin.Rise(w.a, n, water); err != w.err || high != (api.Frac{}) || len(cells) > 0 {
					t.Error("Rise", w, n, water, high, cells, err)
				}
			}
		}
	}
}

// told: what is answered of a raster.
type told struct {
	basins        []int
	lakes, joined [][]int
	depths        [][2]int
	divides       [][2]int
	passes        []basin.Pass
	highs         []api.Frac
	pools         [][]int
}

// tell all of a raster, and how water rises in its cells.
func tell(a api.Raster) told {
	var out told
	out.basins, _ = basin.Basins(a)
	out.lakes, _ = basin.Lakes(a)
	for _, lake := range out.lakes {
		deepest, all, _ := basin.Depth(a, lake)
		out.depths = append(out.depths, [2]int{deepest, all})
	}
	out.divides, _ = basin.Divides(a)
	out.passes, _ = basin.Passes(a)
	out.joined, _ = basin.Joined(a, 0)
	for cell := 0; cell < len(a.L); cell += 3 {
		high, pool, _ := basin.Rise(a, cell, 5)
		out.highs, out.pools = append(out.highs, high), append(out.pools, pool)
	}
	return out
}

// spoil an answer, behind its lists' lengths, too.
func (o told) spoil() {
	for _, l := range slices.Concat([][]int{o.basins}, o.lakes, o.joined, o.pools) {
		l = l[:cap(l)]
		for i := range l {
			l[i] = -99
		}
	}
	for i := range o.divides {
		o.divides[i] = [2]int{-99, -99}
	}
	for i := range o.passes {
		o.passes[i] = basin.Pass{A: -99, B: -99, High: -99}
	}
}

// roomy: a copy with memory behind its length.
func roomy(l []int) []int {
	return append(slices.Clone(l), slices.Repeat([]int{-77}, 50)...)[:len(l)]
}

// P2, P4: what is handed over is only read, and what is answered is nobody else's.
func TestMemory(t *testing.T) {
	for _, a := range samples(4) {
		a.L = roomy(a.L)
		kept := slices.Clone(a.L[:cap(a.L)])
		tell(a).spoil()
		first := tell(a)
		if !slices.Equal(a.L[:cap(a.L)], kept) {
			t.Fatal("what was handed over is changed", a)
		}
		again := tell(api.Raster{Wide: a.Wide, High: a.High, L: slices.Clone(a.L)})
		for cell := range a.L {
			a.L[cell] = 3
		}
		if !reflect.DeepEqual(first, again) {
			t.Fatal("what was answered is changed", first, again)
		}
	}
}

// P4: no two lists of one answer share memory.
func TestListsShareNothing(t *testing.T) {
	for _, a := range samples(40) {
		lakes, err := basin.Lakes(a)
		if err != nil {
			t.Fatal(a, err)
		}
		joined, err := basin.Joined(a, 0)
		if err != nil {
			t.Fatal(a, err)
		}
		for _, l := range [][][]int{lakes, joined} {
			kept := make([][]int, len(l))
			for n := range l {
				kept[n] = slices.Clone(l[n])
			}
			for n := range l {
				whole := l[n][:cap(l[n])]
				for i := range whole {
					whole[i] = -5
				}
				for later := n + 1; later < len(l); later++ {
					if !slices.Equal(l[later], kept[later]) {
						t.Fatal(a, n, later)
					}
				}
			}
		}
	}
}

// P2: calls side by side answer what one alone does.
func TestSideBySide(t *testing.T) {
	a := sample(rand.New(rand.NewSource(2)), 20, 20, 9)
	want := tell(a)
	got := make([]told, 8)
	var busy sync.WaitGroup
	for n := range got {
		busy.Go(func() { got[n] = tell(a) })
	}
	busy.Wait()
	for n := range got {
		if !reflect.DeepEqual(got[n], want) {
			t.Error(n)
		}
	}
}
