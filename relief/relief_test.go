package relief_test

import (
	"math"
	"math/big"
	"math/rand"
	"slices"
	"testing"

	"mercator/api"
	"mercator/relief"
)

// raster of rows that are so wide.
func raster(wide int, l ...int) api.Raster {
	return api.Raster{Wide: wide, High: len(l) / wide, L: l}
}

// flat raster: one height.
func flat(wide, high, height int) api.Raster {
	return api.Raster{Wide: wide, High: high, L: slices.Repeat([]int{height}, wide*high)}
}

// sample: heights at most so great, in size.
func sample(r *rand.Rand, wide, high, size int) api.Raster {
	a := flat(wide, high, 0)
	for i := range a.L {
		a.L[i] = r.Intn(2*size+1) - size
	}
	return a
}

// samples of many shapes, from one cell on, and heights from those that are much alike to the greatest ones.
func samples(seed int64) []api.Raster {
	r := rand.New(rand.NewSource(seed))
	var out []api.Raster
	for _, size := range []int{1, 5, 1000, api.MaxHigh} {
		for _, s := range [][2]int{{1, 1}, {1, 2}, {2, 1}, {2, 2}, {3, 3}, {5, 4}, {4, 7}, {1, 9}, {9, 1}} {
			out = append(out, sample(r, s[0], s[1], size))
		}
	}
	edge := sample(r, 6, 5, 1)
	for i := range edge.L {
		edge.L[i] *= api.MaxHigh
	}
	return append(out, edge, flat(3, 2, api.MaxHigh), flat(2, 3, -api.MaxHigh), flat(4, 4, -1))
}

// wrongRaster and the error that is told of it.
type wrongRaster struct {
	a   api.Raster
	err error
}

// wrongRasters: what no raster is.
func wrongRasters() []wrongRaster {
	high := func(height int) api.Raster { return raster(2, 1, 2, 3, height) }
	return []wrongRaster{
		{api.Raster{Wide: api.MaxSide + 1, High: 1, L: make([]int, api.MaxSide+1)}, api.ErrBound},
		{api.Raster{Wide: 1, High: api.MaxSide + 1, L: make([]int, api.MaxSide+1)}, api.ErrBound},
		{api.Raster{Wide: math.MaxInt, High: math.MaxInt, L: []int{1}}, api.ErrBound},
		{api.Raster{Wide: 1 << 32, High: 1 << 32}, api.ErrBound},
		{api.Raster{}, api.ErrShape},
		{api.Raster{Wide: 0, High: 1}, api.ErrShape},
		{api.Raster{Wide: 1, High: 0}, api.ErrShape},
		{api.Raster{Wide: 1, High: 1}, api.ErrShape},
		{api.Raster{Wide: -1, High: -1, L: []int{1}}, api.ErrShape},
		{api.Raster{Wide: math.MinInt, High: math.MinInt}, api.ErrShape},
		{api.Raster{Wide: 2, High: 2, L: make([]int, 3)}, api.ErrShape},
		{api.Raster{Wide: 2, High: 2, L: make([]int, 5)}, api.ErrShape},
		{high(api.MaxHigh + 1), api.ErrRange},
		{high(-api.MaxHigh - 1), api.ErrRange},
		{high(math.MaxInt), api.ErrRange},
		{high(math.MinInt), api.ErrRange},
	}
}

// P100 to P105: what is no raster is told ahead of what is wrong beside it, and nothing else is told then.
func TestWrongRasters(t *testing.T) {
	for _, c := range wrongRasters() {
		for _, n := range []int{0, 1, -1, math.MaxInt, math.MinInt} {
			p := api.Spot{X: n, Y: n}
			if f, err := relief.At(c.a, p); err != c.err || f != (api.Frac{}) {
				t.Error("At", c.a, p, f, err)
			}
			if east, north, err := relief.Slope(c.a, n); err != c.err || east != 0 || north != 0 {
				t.Error("Slope", c.a, n, east, north, err)
			}
			for _, light := range [][3]int{{0, 0, 1}, {}, {n, n, n}} {
				if v, err := relief.Shade(c.a, n, light); err != c.err || v != 0 {
					t.Error("Shade", c.a, n, light, v, err)
				}
			}
			if l, err := relief.Profile(c.a, api.Spot{}, p, n); err != c.err || len(l) > 0 {
				t.Error("Profile", c.a, n, l, err)
			}
			if tops, bottoms, err := relief.Tops(c.a); err != c.err || len(tops) > 0 || len(bottoms) > 0 {
				t.Error("Tops", c.a, tops, bottoms, err)
			}
			if whole, part, err := relief.Above(c.a, n, n); err != c.err || whole != 0 || part != 0 {
				t.Error("Above", c.a, n, whole, part, err)
			}
		}
	}
}

// P3, P4: the heights are only read, and none behind them is asked or written.
func TestOnlyRead(t *testing.T) {
	memory := []int{3, 1, 4, 1, 5, 9, 2, 6, 5}
	for _, behind := range []int{math.MaxInt, math.MinInt, 0} {
		whole := append(slices.Clone(memory), behind, behind, behind, behind)
		before := slices.Clone(whole)
		a, b := raster(3, whole[:9]...), raster(3, slices.Clone(memory)...)
		a.L = whole[:9]
		for cell := range a.L {
			p := api.Spot{X: 256 * (cell % 3), Y: -256 * (cell / 3)}
			f, err := relief.At(a, p)
			if g, _ := relief.At(b, p); err != nil || f != g {
				t.Error(p, f, g, err)
			}
			v, err := relief.Shade(a, cell, [3]int{1, 2, 3})
			if w, _ := relief.Shade(b, cell, [3]int{1, 2, 3}); err != nil || v != w {
				t.Error(cell, v, w, err)
			}
		}
		tops, bottoms, _ := relief.Tops(a)
		others, deeps, _ := relief.Tops(b)
		if !slices.Equal(tops, others) || !slices.Equal(bottoms, deeps) {
			t.Error(tops, bottoms, others, deeps)
		}
		l, err := relief.Profile(a, api.Spot{}, api.Spot{X: 512, Y: -512}, 3)
		if m, _ := relief.Profile(b, api.Spot{}, api.Spot{X: 512, Y: -512}, 3); err != nil || !slices.Equal(l, m) {
			t.Error(l, m, err)
		}
		many, part, err := relief.Above(a, 4, 1)
		if n, p, _ := relief.Above(b, 4, 1); err != nil || many != n || part != p {
			t.Error(many, part, n, p, err)
		}
		if !slices.Equal(whole, before) {
			t.Error(whole, before)
		}
	}
}

// P100: worked out by hand: corners, both triangles, the cut between them, and rasters that have no triangle.
func TestAt(t *testing.T) {
	a := raster(3, 0, 4, -1, 8, 16, 7)
	for _, c := range []struct {
		a    api.Raster
		x, y int
		want api.Frac
	}{
		{a, 0, 0, api.Frac{Num: 0, Den: 1}},
		{a, 256, 0, api.Frac{Num: 4, Den: 1}},
		{a, 512, 0, api.Frac{Num: -1, Den: 1}},
		{a, 0, -256, api.Frac{Num: 8, Den: 1}},
		{a, 256, -256, api.Frac{Num: 16, Den: 1}},
		{a, 512, -256, api.Frac{Num: 7, Den: 1}},
		{a, 128, -128, api.Frac{Num: 8, Den: 1}},
		{a, 192, -64, api.Frac{Num: 6, Den: 1}},
		{a, 64, -192, api.Frac{Num: 8, Den: 1}},
		{a, 64, -128, api.Frac{Num: 6, Den: 1}},
		{a, 128, -64, api.Frac{Num: 5, Den: 1}},
		{a, 1, 0, api.Frac{Num: 1, Den: 64}},
		{a, 255, 0, api.Frac{Num: 255, Den: 64}},
		{a, 257, 0, api.Frac{Num: 1019, Den: 256}},
		{a, 511, -1, api.Frac{Num: -243, Den: 256}},
		{a, 257, -255, api.Frac{Num: 4075, Den: 256}},
		{a, 512, -128, api.Frac{Num: 3, Den: 1}},
		{raster(2, 0, 1), 128, 0, api.Frac{Num: 1, Den: 2}},
		{raster(2, -1, -2), 64, 0, api.Frac{Num: -5, Den: 4}},
		{raster(1, 0, 3), 0, -128, api.Frac{Num: 3, Den: 2}},
		{raster(1, 5, 3, -9), 0, -512, api.Frac{Num: -9, Den: 1}},
		{raster(1, -7), 0, 0, api.Frac{Num: -7, Den: 1}},
		{raster(2, api.MaxHigh, -api.MaxHigh), 1, 0, api.Frac{Num: 127 << 13, Den: 1}},
	} {
		if got, err := relief.At(c.a, api.Spot{X: c.x, Y: c.y}); err != nil || got != c.want {
			t.Error(c.a, c.x, c.y, got, err, c.want)
		}
	}
}

// P100: there is no ground beyond the first and last middles.
func TestAtRange(t *testing.T) {
	for _, a := range []api.Raster{flat(1, 1, 3), flat(1, 4, 3), flat(5, 1, 3), flat(3, 2, 3), flat(api.MaxSide, api.MaxSide, 3)} {
		east, south := 256*(a.Wide-1), -256*(a.High-1)
		for _, x := range []int{math.MinInt, -256, -1, 0, east, east + 1, east + 256, 1 << 40, math.MaxInt} {
			for _, y := range []int{math.MinInt, math.MinInt + 1, south - 256, south - 1, south, 0, 1, 256, math.MaxInt} {
				got, err := relief.At(a, api.Spot{X: x, Y: y})
				if x >= 0 && x <= east && y <= 0 && y >= south {
					if err != nil || got != (api.Frac{Num: 3, Den: 1}) {
						t.Error(a.Wide, a.High, x, y, got, err)
					}
				} else if err != api.ErrRange || got != (api.Frac{}) {
					t.Error(a.Wide, a.High, x, y, got, err)
				}
			}
		}
	}
}

// triangle of middles, with its heights.
type triangle struct {
	spots   [3]api.Spot
	heights [3]int
}

// triangles of a raster.
func triangles(a api.Raster) []triangle {
	var out []triangle
	for row := 0; row+1 < a.High; row++ {
		for col := 0; col+1 < a.Wide; col++ {
			cell := row*a.Wide + col
			for _, third := range []int{cell + 1, cell + a.Wide} {
				var one triangle
				for i, c := range []int{cell, third, cell + a.Wide + 1} {
					one.spots[i] = api.Spot{X: 256 * (c % a.Wide), Y: -256 * (c / a.Wide)}
					one.heights[i] = a.L[c]
				}
				out = append(out, one)
			}
		}
	}
	return out
}

// turned: twice the area of three points; above 0, if they go against the clock.
func turned(a, b, c api.Spot) int { return (b.X-a.X)*(c.Y-a.Y) - (c.X-a.X)*(b.Y-a.Y) }

// at a point of a triangle, by the areas over against its corners; ok: it is in it.
func (one triangle) at(p api.Spot) (*big.Rat, bool) {
	s := one.spots
	all := turned(s[0], s[1], s[2])
	sum := 0
	for i := range 3 {
		part := turned(p, s[(i+1)%3], s[(i+2)%3])
		if part*all < 0 {
			return nil, false
		}
		sum += part * one.heights[i]
	}
	return big.NewRat(int64(sum), int64(all)), true
}

// P100: of each triangle that a point is in, the same height, evenly.
func TestAtSamples(t *testing.T) {
	r := rand.New(rand.NewSource(100))
	asked, shared := 0, 0
	for _, a := range samples(101) {
		all := triangles(a)
		if len(all) == 0 {
			continue
		}
		for range 300 {
			p := api.Spot{X: r.Intn(256*(a.Wide-1) + 1), Y: -r.Intn(256*(a.High-1) + 1)}
			switch r.Intn(4) {
			case 0: // on a line of middles
				p.X -= p.X % 256
			case 1:
				p.Y -= p.Y % 256
			case 2: // on a cut
				p.Y += -(p.Y % 256) - p.X%256
				if p.Y < -256*(a.High-1) {
					continue
				}
			}
			got, err := relief.At(a, p)
			if err != nil {
				t.Fatal(a, p, err)
			}
			in := 0
			for _, one := range all {
				if want, ok := one.at(p); ok {
					in++
					if want.Num().Int64() != int64(got.Num) || want.Denom().Int64() != int64(got.Den) {
						t.Fatal(a, p, got, want)
					}
				}
			}
			asked++
			if in > 1 {
				shared++
			}
			if in == 0 {
				t.Fatal(a, p)
			}
		}
	}
	if asked < 5000 || shared < 2000 || asked-shared < 500 {
		t.Error("samples are too much alike", asked, shared)
	}
}

// P100: of one row or column, evenly between its cells.
func TestAtLine(t *testing.T) {
	r := rand.New(rand.NewSource(102))
	a := sample(r, api.MaxSide, 1, api.MaxHigh)
	for n := range 256*(api.MaxSide-1) + 1 {
		left, right := a.L[n/256], a.L[min(n/256+1, api.MaxSide-1)]
		want := big.NewRat(int64(left*(256-n%256)+right*(n%256)), 256)
		for _, c := range []struct {
			a api.Raster
			p api.Spot
		}{{a, api.Spot{X: n}}, {api.Raster{Wide: 1, High: api.MaxSide, L: a.L}, api.Spot{Y: -n}}} {
			got, err := relief.At(c.a, c.p)
			if err != nil || want.Cmp(big.NewRat(int64(got.Num), int64(got.Den))) != 0 || want.Denom().Int64() != int64(got.Den) {
				t.Fatal(c.p, got, err, want)
			}
		}
	}
}

// Times, worked out by hand: thirds of a step over both triangles and their cut, whole steps, and rasters that have no triangle.
func TestTimes(t *testing.T) {
	a := raster(3, 0, 4, -1, 8, 16, 7)
	for _, c := range []struct {
		a                        api.Raster
		east, south, parts, want int
	}{
		{a, 0, 0, 1, 0},
		{a, 1, 1, 1, 16},
		{a, 2, 1, 1, 7},
		{a, 2, 1, 3, 20},
		{a, 1, 2, 3, 24},
		{a, 2, 2, 3, 32},
		{a, 4, 0, 3, 7},
		{a, 6, 3, 3, 21},
		{a, 5, 3, 3, 30},
		{raster(2, 0, 1), 1, 0, 2, 1},
		{raster(1, 0, 3), 0, 1, 2, 3},
		{raster(1, 5, 3, -9), 0, 14, 7, -63},
		{raster(1, -7), 0, 0, 5, -35},
		{raster(2, api.MaxHigh, -api.MaxHigh), api.MaxPlace, 0, api.MaxPlace, -api.MaxHigh * api.MaxPlace},
		{raster(2, api.MaxHigh, -api.MaxHigh), api.MaxPlace / 2, 0, api.MaxPlace, 0},
		{flat(api.MaxSide, api.MaxSide, 3), 127 * api.MaxPlace, 127 * api.MaxPlace, api.MaxPlace, 3 * api.MaxPlace},
	} {
		if got, ok := relief.Times(c.a, c.east, c.south, c.parts); !ok || got != c.want {
			t.Error(c.a.Wide, c.a.High, c.east, c.south, c.parts, got, ok, c.want)
		}
	}
}

// Times is parts times what At tells, where both can be asked.
func TestTimesSamples(t *testing.T) {
	r := rand.New(rand.NewSource(105))
	for _, a := range samples(106) {
		for range 200 {
			per := []int{1, 2, 8, 64, 256}[r.Intn(5)]
			parts := 256 / per
			east, south := r.Intn(parts*(a.Wide-1)+1), r.Intn(parts*(a.High-1)+1)
			want, err := relief.At(a, api.Spot{X: per * east, Y: -per * south})
			if got, ok := relief.Times(a, east, south, parts); err != nil || !ok || got*want.Den != want.Num*parts {
				t.Fatal(a, east, south, parts, got, ok, want, err)
			}
		}
	}
}

// Times tells nothing of what has another shape than a raster, of other parts, and beyond the first and last middles.
func TestTimesWrong(t *testing.T) {
	a := raster(2, 0, 4, 8, 16)
	none := func(a api.Raster, east, south, parts int) {
		t.Helper()
		if got, ok := relief.Times(a, east, south, parts); ok || got != 0 {
			t.Error(a.Wide, a.High, east, south, parts, got, ok)
		}
	}
	for _, n := range []int{-1, 6, math.MaxInt, math.MinInt} {
		none(a, n, 0, 5)
		none(a, 0, n, 5)
		none(a, n, n, 5)
	}
	for _, parts := range []int{0, -1, api.MaxPlace + 1, math.MaxInt, math.MinInt} {
		none(a, 0, 0, parts)
	}
	for _, c := range wrongRasters() {
		for _, n := range []int{0, 1, -1, math.MaxInt, math.MinInt} {
			if c.err == api.ErrRange { // a wrong height is not looked for
				relief.Times(c.a, 1, 1, 3)
				relief.Times(c.a, n, n, n)
			} else {
				none(c.a, n, n, 3)
				none(c.a, 0, 0, n)
			}
		}
	}
}

// fracs of whole numbers over one that is given.
func fracs(den int, nums ...int) []api.Frac {
	var out []api.Frac
	for _, n := range nums {
		r := big.NewRat(int64(n), int64(den))
		out = append(out, api.Frac{Num: int(r.Num().Int64()), Den: int(r.Denom().Int64())})
	}
	return out
}

// P103: worked out by hand: whichever way a line goes, each coordinate is rounded down.
func TestProfile(t *testing.T) {
	a, line := raster(2, 0, 4, 8, 16), raster(1, 0, -256)
	for _, c := range []struct {
		a        api.Raster
		from, to api.Spot
		parts    int
		want     []api.Frac
	}{
		{a, api.Spot{}, api.Spot{X: 256, Y: -256}, 4, fracs(1, 0, 4, 8, 12, 16)},
		{a, api.Spot{X: 3}, api.Spot{}, 2, fracs(64, 3, 1, 0)},
		{a, api.Spot{}, api.Spot{X: 3}, 2, fracs(64, 0, 1, 3)},
		{a, api.Spot{X: 256, Y: -256}, api.Spot{X: 256, Y: 0}, 1, fracs(1, 16, 4)},
		{a, api.Spot{X: 256}, api.Spot{X: 256}, 3, fracs(1, 4, 4, 4, 4)},
		{line, api.Spot{}, api.Spot{Y: -3}, 2, fracs(1, 0, -2, -3)},
		{line, api.Spot{Y: -3}, api.Spot{}, 2, fracs(1, -3, -2, 0)},
		{line, api.Spot{Y: -256}, api.Spot{Y: -255}, 4, fracs(1, -256, -256, -256, -256, -255)},
		{line, api.Spot{Y: -255}, api.Spot{Y: -256}, 4, fracs(1, -255, -256, -256, -256, -256)},
		{line, api.Spot{Y: -10}, api.Spot{}, 3, fracs(1, -10, -7, -4, 0)},
		{flat(1, 1, 9), api.Spot{}, api.Spot{}, 2, fracs(1, 9, 9, 9)},
	} {
		if got, err := relief.Profile(c.a, c.from, c.to, c.parts); err != nil || !slices.Equal(got, c.want) {
			t.Error(c.from, c.to, c.parts, got, err, c.want)
		}
	}
}

// P103: how many parts there may be, ahead of where the ends are.
func TestProfileWrong(t *testing.T) {
	a := raster(2, 0, 4, 8, 16)
	here, off := api.Spot{X: 256, Y: -256}, []api.Spot{{X: -1}, {X: 257}, {Y: 1}, {Y: -257}, {X: math.MaxInt, Y: math.MinInt}, {X: math.MinInt, Y: math.MaxInt}}
	for _, parts := range []int{0, -1, api.MaxList + 1, math.MaxInt, math.MinInt} {
		for _, to := range append(off, here) {
			if got, err := relief.Profile(a, here, to, parts); err != api.ErrShape || len(got) > 0 {
				t.Error(to, parts, got, err)
			}
		}
	}
	for _, parts := range []int{1, 2, api.MaxList} {
		for _, end := range off {
			if got, err := relief.Profile(a, here, end, parts); err != api.ErrRange || len(got) > 0 {
				t.Error(end, parts, got, err)
			}
			if got, err := relief.Profile(a, end, here, parts); err != api.ErrRange || len(got) > 0 {
				t.Error(end, parts, got, err)
			}
			if got, err := relief.Profile(a, end, end, parts); err != api.ErrRange || len(got) > 0 {
				t.Error(end, parts, got, err)
			}
		}
	}
}

// P103: as of At, point by point, on the greatest raster and with the most parts, too; what is answered is new each time.
func TestProfileSamples(t *testing.T) {
	r := rand.New(rand.NewSource(103))
	all := append(samples(104), sample(r, api.MaxSide, api.MaxSide, api.MaxHigh))
	for n, a := range all {
		for _, parts := range []int{1, 2, 7, 100, api.MaxList} {
			from := api.Spot{X: r.Intn(256*(a.Wide-1) + 1), Y: -r.Intn(256*(a.High-1) + 1)}
			to := api.Spot{X: r.Intn(256*(a.Wide-1) + 1), Y: -r.Intn(256*(a.High-1) + 1)}
			got, err := relief.Profile(a, from, to, parts)
			if err != nil || len(got) != parts+1 {
				t.Fatal(n, from, to, parts, len(got), err)
			}
			for k := 0; k <= parts; k += 1 + parts/50 {
				want, err := relief.At(a, api.Spot{X: between(from.X, to.X, k, parts), Y: between(from.Y, to.Y, k, parts)})
				if err != nil || got[k] != want {
					t.Fatal(n, from, to, k, parts, got[k], want, err)
				}
			}
			first := got[0]
			got[0] = api.Frac{}
			if again, _ := relief.Profile(a, from, to, parts); again[0] != first {
				t.Error(again[0], first)
			}
		}
	}
}

// between two numbers: k of so many parts, rounded down, by numbers of any length.
func between(from, to, k, parts int) int {
	way := new(big.Int).Add(
		new(big.Int).Mul(big.NewInt(int64(from)), big.NewInt(int64(parts-k))),
		new(big.Int).Mul(big.NewInt(int64(to)), big.NewInt(int64(k))))
	return int(new(big.Int).Div(way, big.NewInt(int64(parts))).Int64())
}
