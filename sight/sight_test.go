package sight_test

import (
	"math"
	"math/rand"
	"slices"
	"sync"
	"testing"

	"mercator/api"
	"mercator/sight"
)

// raster of rows that are so wide.
func raster(wide int, l ...int) api.Raster {
	return api.Raster{Wide: wide, High: len(l) / wide, L: l}
}

// flat raster: one height.
func flat(wide, high, height int) api.Raster {
	return api.Raster{Wide: wide, High: high, L: slices.Repeat([]int{height}, wide*high)}
}

// with other heights in some cells: cell, height, cell, height, ..
func with(a api.Raster, pairs ...int) api.Raster {
	out := api.Raster{Wide: a.Wide, High: a.High, L: slices.Clone(a.L)}
	for n := 0; n < len(pairs); n += 2 {
		out.L[pairs[n]] = pairs[n+1]
	}
	return out
}

// sample: heights at most so great, in size.
func sample(r *rand.Rand, wide, high, size int) api.Raster {
	a := flat(wide, high, 0)
	for i := range a.L {
		a.L[i] = r.Intn(2*size+1) - size
	}
	return a
}

// bowl: a sample that rises to its rim, so that much is seen.
func bowl(r *rand.Rand, wide, high, size int) api.Raster {
	a := sample(r, wide, high, size)
	for cell := range a.L {
		east, south := 2*(cell%wide)-wide+1, 2*(cell/wide)-high+1
		a.L[cell] += size * (east*east + south*south) / (wide + high)
	}
	return a
}

// samples of many shapes, from one cell on; heights that are much alike, so that many lines touch the ground, and the greatest ones.
func samples(seed int64) []api.Raster {
	r := rand.New(rand.NewSource(seed))
	var out []api.Raster
	for _, s := range [][2]int{{1, 1}, {1, 2}, {2, 1}, {2, 2}, {3, 2}, {2, 3}, {3, 3}, {5, 4}, {4, 6}, {1, 8}, {8, 1}, {9, 2}, {7, 7}, {6, 9}, {10, 8}, {11, 5}} {
		for _, size := range []int{0, 1, 4, 300} {
			out = append(out, sample(r, s[0], s[1], size), bowl(r, s[0], s[1], size))
		}
		out = append(out, sample(r, s[0], s[1], api.MaxHigh))
	}
	edge := sample(r, 5, 5, 1)
	for i := range edge.L {
		edge.L[i] *= api.MaxHigh
	}
	return append(out, edge, flat(4, 3, api.MaxHigh), flat(3, 4, -api.MaxHigh))
}

// eyes: how much above the ground one may stand, from nothing to the most; mostly so that it matters on a raster.
func eyes(r *rand.Rand, a api.Raster) int {
	rise := slices.Max(a.L) - slices.Min(a.L)
	switch r.Intn(8) {
	case 0, 1, 2:
		return 0
	case 3, 4:
		return r.Intn(3)
	case 5, 6:
		return r.Intn(min(rise, api.MaxHigh) + 1)
	}
	return r.Intn(api.MaxHigh + 1)
}

// sees, where nothing is wrong.
func sees(t *testing.T, a api.Raster, l sight.Look) bool {
	t.Helper()
	ok, err := sight.Sees(a, l)
	if err != nil {
		t.Fatal(a, l, err)
	}
	return ok
}

// P140: worked out by hand: along rows, columns, cuts and across them; a line that only touches the ground is not below it.
func TestSees(t *testing.T) {
	hill := raster(5, 0, 0, 6, 0, 0)
	across, along := raster(2, 8, 0, 0, 8), raster(2, 0, 8, 8, 0)
	wall := raster(3, 0, 9, 0, 0, 9, 0, 0, 9, 0)
	for _, c := range []struct {
		a    api.Raster
		l    sight.Look
		want bool
	}{
		{hill, sight.Look{From: 0, To: 4, Eye: 6, Up: 6}, true},
		{hill, sight.Look{From: 0, To: 4, Eye: 6, Up: 5}, false},
		{hill, sight.Look{From: 0, To: 4, Eye: 12}, true},
		{hill, sight.Look{From: 0, To: 4, Eye: 11}, false},
		{hill, sight.Look{From: 4, To: 0, Up: 12}, true},
		{hill, sight.Look{From: 4, To: 0, Up: 11}, false},
		{hill, sight.Look{From: 0, To: 3, Eye: 18}, true},
		{hill, sight.Look{From: 0, To: 3, Eye: 17}, false},
		{hill, sight.Look{From: 3, To: 0, Eye: 9}, true},
		{hill, sight.Look{From: 3, To: 0, Eye: 8}, false},
		{hill, sight.Look{From: 0, To: 2}, true}, // the ground between is not above the line to a top
		{hill, sight.Look{From: 2, To: 0}, true},
		{hill, sight.Look{From: 0, To: 1}, true},
		{raster(1, 0, 0, 6, 0, 0), sight.Look{From: 0, To: 4, Eye: 12}, true},
		{raster(1, 0, 0, 6, 0, 0), sight.Look{From: 0, To: 4, Eye: 11}, false},
		{raster(3, 0, -9, 0), sight.Look{From: 0, To: 2}, true},
		{raster(3, -4, -3, -2), sight.Look{From: 0, To: 2}, true}, // along the ground
		{raster(3, -4, -2, -2), sight.Look{From: 0, To: 2}, false},
		{raster(3, -4, -2, -2), sight.Look{From: 0, To: 2, Up: 1}, false},
		{raster(3, -4, -2, -2), sight.Look{From: 0, To: 2, Up: 2}, true},
		{along, sight.Look{From: 0, To: 3}, true}, // along the cut, with heights to both sides
		{along, sight.Look{From: 1, To: 2}, true}, // over the cut, which lies below
		{across, sight.Look{From: 0, To: 3}, true},
		{across, sight.Look{From: 1, To: 2}, false}, // over the cut, which lies above, between cells side by side
		{across, sight.Look{From: 1, To: 2, Eye: 15}, false},
		{across, sight.Look{From: 1, To: 2, Eye: 16}, true},
		{across, sight.Look{From: 2, To: 1, Eye: 8, Up: 8}, true},
		{across, sight.Look{From: 2, To: 1, Eye: 8, Up: 7}, false},
		{wall, sight.Look{From: 0, To: 8}, false},
		{wall, sight.Look{From: 6, To: 2}, false},
		{wall, sight.Look{From: 0, To: 5, Eye: 17}, false},
		{wall, sight.Look{From: 0, To: 5, Eye: 18}, true},
		{raster(2, 0, 8, 0, 4, 0, 0), sight.Look{From: 0, To: 5, Eye: 3}, false}, // over the middle of edges
		{raster(2, 0, 8, 0, 4, 0, 0), sight.Look{From: 0, To: 5, Eye: 4}, true},
		{flat(1, 1, -7), sight.Look{}, true},
		{hill, sight.Look{From: 3, To: 3}, true}, // a cell sees itself
		{wall, sight.Look{From: 4, To: 4, Eye: api.MaxHigh, Up: 3}, true},
		{raster(3, -api.MaxHigh, 0, -api.MaxHigh), sight.Look{From: 0, To: 2, Eye: api.MaxHigh, Up: api.MaxHigh}, true},
		{raster(3, -api.MaxHigh, 0, -api.MaxHigh), sight.Look{From: 0, To: 2, Eye: api.MaxHigh, Up: api.MaxHigh - 1}, false},
		{raster(3, -api.MaxHigh, 1, -api.MaxHigh), sight.Look{From: 0, To: 2, Eye: api.MaxHigh, Up: api.MaxHigh}, false},
	} {
		if got := sees(t, c.a, c.l); got != c.want {
			t.Error(c.a, c.l, got)
		}
	}
}

// P140, P142: on flat ground all see all; behind a wall nobody is seen.
func TestFlat(t *testing.T) {
	for _, a := range []api.Raster{flat(6, 5, 0), flat(1, 7, 3), flat(7, 1, -3), flat(4, 4, api.MaxHigh), flat(4, 4, -api.MaxHigh)} {
		for from := range a.L {
			if got, err := sight.View(a, from, 0, 0, 3); err != nil || len(got) != len(a.L) {
				t.Error(a, from, got, err)
			}
		}
	}
}

// P141: worked out by hand: Up does not count, and is not wrong either.
func TestNeed(t *testing.T) {
	hill := raster(5, 0, 0, 6, 0, 0)
	m := api.MaxHigh
	near := with(flat(api.MaxSide, 1, -m), 1, m)
	corner := with(flat(api.MaxSide, api.MaxSide, -m), 126, m, 255, m)
	for _, c := range []struct {
		a        api.Raster
		l        sight.Look
		num, den int
	}{
		{hill, sight.Look{To: 4, Eye: 3}, 9, 1},
		{hill, sight.Look{To: 4, Eye: 12}, 0, 1},
		{hill, sight.Look{To: 4, Eye: 100}, 0, 1},
		{hill, sight.Look{To: 3, Eye: 1}, 17, 2},
		{hill, sight.Look{From: 3, To: 0, Eye: 1}, 16, 1},
		{hill, sight.Look{To: 3}, 9, 1},
		{hill, sight.Look{To: 2}, 0, 1},
		{hill, sight.Look{To: 1, Up: 9}, 0, 1},
		{hill, sight.Look{To: 4, Up: 12}, 12, 1},
		{hill, sight.Look{To: 4, Up: -1}, 12, 1},
		{hill, sight.Look{To: 4, Up: math.MinInt}, 12, 1},
		{hill, sight.Look{To: 4, Up: math.MaxInt}, 12, 1},
		{hill, sight.Look{From: 2, To: 2, Up: 5}, 0, 1},
		{raster(2, 8, 0, 0, 8), sight.Look{From: 1, To: 2}, 16, 1},
		{raster(2, 8, 0, 0, 7), sight.Look{From: 1, To: 2, Eye: 2}, 13, 1},
		{raster(2, 0, 8, 0, 4, 0, 0), sight.Look{To: 5, Eye: 3}, 1, 1},
		{raster(2, 0, 8, 0, 4, 0, 0), sight.Look{To: 5}, 4, 1},
		{raster(4, 0, 3, 4, 0), sight.Look{To: 3}, 9, 1},
		{raster(4, 0, 1, 4, 0), sight.Look{To: 3, Eye: 1}, 11, 2},
		{raster(3, 0, -1, 0), sight.Look{To: 2}, 0, 1},
		{raster(3, -m, m, -m), sight.Look{To: 2}, 4 * m, 1},
		{raster(3, m, -m, -m), sight.Look{To: 2}, 0, 1},
		{with(flat(api.MaxSide, 1, 0), 126, 1), sight.Look{To: 127}, 127, 126},
		{near, sight.Look{To: 127}, 254 * m, 1},
		{near, sight.Look{To: 127, Eye: m}, 128 * m, 1},
		{api.Raster{Wide: 1, High: api.MaxSide, L: near.L}, sight.Look{To: 127}, 254 * m, 1},
		{corner, sight.Look{From: 127, To: 127 * 128}, 508 * m, 1},
		{corner, sight.Look{From: 127 * 128, To: 127}, 508 * m, 253},
	} {
		if got, err := sight.Need(c.a, c.l); err != nil || got != (api.Frac{Num: c.num, Den: c.den}) {
			t.Error(c.a.Wide, c.a.High, c.l, got, err, c.num, c.den)
		}
	}
}

// P140, P141: samples, each look held against the ground triangle by triangle.
func TestLooksSamples(t *testing.T) {
	r := rand.New(rand.NewSource(140))
	free, hidden, broken := 0, 0, 0
	for _, a := range samples(141) {
		for range 20 + 2*len(a.L) {
			l := sight.Look{From: r.Intn(len(a.L)), To: r.Intn(len(a.L)), Eye: eyes(r, a), Up: eyes(r, a)}
			want, need := look(a, l)
			if got := sees(t, a, l); got != want {
				t.Fatal(a, l, got)
			}
			got, err := sight.Need(a, l)
			if err != nil || int64(got.Num) != need.Num().Int64() || int64(got.Den) != need.Denom().Int64() {
				t.Fatal(a, l, got, err, need)
			}
			if want {
				free++
			} else {
				hidden++
			}
			if got.Den > 1 {
				broken++
			}
		}
	}
	if free < 1000 || hidden < 1000 || broken < 400 {
		t.Error("samples are too much alike", free, hidden, broken)
	}
}

// P140, P141: the same, from end to end of the greatest rasters.
func TestLooksGreatest(t *testing.T) {
	r := rand.New(rand.NewSource(142))
	rough := sample(r, api.MaxSide, api.MaxSide, api.MaxHigh)
	for _, a := range []api.Raster{rough, bowl(r, api.MaxSide, api.MaxSide, 30), sample(r, api.MaxSide, 3, 2), sample(r, 1, api.MaxSide, 2)} {
		last := len(a.L) - 1
		for n := range 8 {
			l := [][2]int{{0, last}, {last, 0}, {a.Wide - 1, last - a.Wide + 1}, {0, last - 1}, {last - a.Wide, 0}}[n%5]
			one := sight.Look{From: l[0], To: l[1], Eye: eyes(r, a), Up: eyes(r, a)}
			want, need := look(a, one)
			if got := sees(t, a, one); got != want {
				t.Error(a.Wide, a.High, one, got)
			}
			got, err := sight.Need(a, one)
			if err != nil || int64(got.Num) != need.Num().Int64() || int64(got.Den) != need.Denom().Int64() {
				t.Error(a.Wide, a.High, one, got, err, need)
			}
		}
	}
}

// P141: by so much it is seen, and by no less.
func TestNeedIsLeast(t *testing.T) {
	r := rand.New(rand.NewSource(143))
	asked := 0
	for _, a := range samples(144) {
		for range 20 + 2*len(a.L) {
			l := sight.Look{From: r.Intn(len(a.L)), To: r.Intn(len(a.L)), Eye: eyes(r, a)}
			need, err := sight.Need(a, l)
			if err != nil {
				t.Fatal(a, l, err)
			}
			l.Up = (need.Num + need.Den - 1) / need.Den
			if l.Up > api.MaxHigh {
				l.Up = api.MaxHigh
				if sees(t, a, l) {
					t.Fatal(a, l, need)
				}
				continue
			}
			if !sees(t, a, l) {
				t.Fatal(a, l, need)
			}
			if l.Up > 0 {
				asked++
				l.Up--
				if sees(t, a, l) {
					t.Fatal(a, l, need)
				}
			}
		}
	}
	if asked < 500 {
		t.Error("samples are too much alike", asked)
	}
}

// P144: who sees is seen; whoever stands higher sees no less; if the ground between rises, no more is seen.
func TestAlways(t *testing.T) {
	r := rand.New(rand.NewSource(145))
	more, less := 0, 0
	for _, a := range samples(146) {
		for range 20 + 2*len(a.L) {
			l := sight.Look{From: r.Intn(len(a.L)), To: r.Intn(len(a.L)), Eye: eyes(r, a), Up: eyes(r, a)}
			ok := sees(t, a, l)
			if back := sees(t, a, sight.Look{From: l.To, To: l.From, Eye: l.Up, Up: l.Eye}); back != ok {
				t.Fatal(a, l, ok, back)
			}
			higher := l
			higher.Eye += r.Intn(api.MaxHigh - l.Eye + 1)
			higher.Up += r.Intn(api.MaxHigh - l.Up + 1)
			if above := sees(t, a, higher); ok && !above {
				t.Fatal(a, l, higher)
			} else if above && !ok {
				more++
			}
			risen := with(a)
			for cell := range risen.L {
				if cell != l.From && cell != l.To && r.Intn(3) == 0 {
					risen.L[cell] += r.Intn(min(api.MaxHigh-risen.L[cell], 50) + 1)
				}
			}
			if still := sees(t, risen, l); still && !ok {
				t.Fatal(a, risen, l)
			} else if ok && !still {
				less++
			}
			need, _ := sight.Need(a, l)
			now, err := sight.Need(risen, l)
			if err != nil || now.Num*need.Den < need.Num*now.Den {
				t.Fatal(a, risen, l, need, now, err)
			}
		}
	}
	if more < 100 || less < 100 {
		t.Error("samples are too much alike", more, less)
	}
}

// P1 to P4: many look at one raster at once, and all are told the same.
func TestSideBySide(t *testing.T) {
	a := bowl(rand.New(rand.NewSource(147)), 20, 17, 9)
	want, err := sight.View(a, 27, 3, 1, 1)
	if err != nil {
		t.Fatal(err)
	}
	var busy sync.WaitGroup
	for n := range 24 {
		busy.Go(func() {
			got, err := sight.View(a, 27, 3, 1, 1+n%api.Workers)
			if err != nil || !slices.Equal(got, want) {
				t.Error(n, got, err)
			}
			for cell := range a.L {
				if ok, err := sight.Sees(a, sight.Look{From: 27, To: cell, Eye: 3, Up: 1}); err != nil || ok != slices.Contains(want, cell) {
					t.Error(n, cell, ok, err)
				}
			}
		})
	}
	busy.Wait()
}
