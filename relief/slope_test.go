package relief_test

import (
	"math"
	"math/big"
	"math/rand"
	"testing"

	"mercator/api"
	"mercator/relief"
)

// P101: worked out by hand: in the middle, at corners and sides, where the cell itself counts for those that there are not.
func TestSlope(t *testing.T) {
	a := raster(3, 1, 20, 300, 4000, 50000, 600000, 7, 80, 900)
	for _, c := range []struct {
		a           api.Raster
		cell        int
		east, north int
	}{
		{a, 4, (300 + 1200000 + 900) - (1 + 8000 + 7), (1 + 40 + 300) - (7 + 160 + 900)},
		{a, 0, (1 + 40 + 50000) - (1 + 2 + 1), (1 + 2 + 1) - (1 + 8000 + 50000)},
		{a, 1, (20 + 600 + 600000) - (20 + 2 + 4000), (20 + 40 + 20) - (4000 + 100000 + 600000)},
		{a, 5, (600000 + 1200000 + 600000) - (20 + 100000 + 80), (20 + 600 + 600000) - (80 + 1800 + 600000)},
		{a, 6, (50000 + 160 + 7) - (7 + 14 + 7), (7 + 8000 + 50000) - (7 + 14 + 7)},
		{a, 8, (900 + 1800 + 900) - (50000 + 160 + 900), (50000 + 1200000 + 900) - (900 + 1800 + 900)},
		{raster(2, 1, 5), 0, (1 + 10 + 1) - (1 + 2 + 1), 0},
		{raster(1, 1, 5), 0, 0, (1 + 2 + 1) - (1 + 10 + 1)},
		{raster(1, -7), 0, 0, 0},
	} {
		if east, north, err := relief.Slope(c.a, c.cell); err != nil || east != c.east || north != c.north {
			t.Error(c.cell, east, north, err, c.east, c.north)
		}
	}
}

// P101: no cell.
func TestSlopeRange(t *testing.T) {
	for _, a := range samples(110) {
		for _, cell := range []int{-1, len(a.L), len(a.L) + 1, -a.Wide, math.MaxInt, math.MinInt} {
			if east, north, err := relief.Slope(a, cell); err != api.ErrRange || east != 0 || north != 0 {
				t.Error(a, cell, east, north, err)
			}
			for _, light := range [][3]int{{0, 0, 1}, {}, {1025, 0, 0}} {
				if v, err := relief.Shade(a, cell, light); err != api.ErrRange || v != 0 {
					t.Error(a, cell, light, v, err)
				}
			}
		}
	}
}

// slopeOf a cell by weights of its columns and rows.
func slopeOf(a api.Raster, cell int) (east, north int) {
	for rows := -1; rows <= 1; rows++ {
		for cols := -1; cols <= 1; cols++ {
			height := a.L[cell]
			col, row := cell%a.Wide+cols, cell/a.Wide+rows
			if col >= 0 && col < a.Wide && row >= 0 && row < a.High {
				height = a.L[row*a.Wide+col]
			}
			east += cols * (2 - rows*rows) * height
			north -= rows * (2 - cols*cols) * height
		}
	}
	return east, north
}

// P101: all cells of many rasters.
func TestSlopeSamples(t *testing.T) {
	for _, a := range samples(111) {
		for cell := range a.L {
			east, north, err := relief.Slope(a, cell)
			wantEast, wantNorth := slopeOf(a, cell)
			if err != nil || east != wantEast || north != wantNorth {
				t.Fatal(a, cell, east, north, err, wantEast, wantNorth)
			}
		}
	}
}

// shadeOf a cell: the numbers are tried one by one, from the greatest one down.
func shadeOf(a api.Raster, cell int, light [3]int) int {
	east, north := slopeOf(a, cell)
	face := [3]int{-east, -north, 2048}
	toward := dot(face, light)
	if toward.Sign() <= 0 {
		return 0
	}
	most := new(big.Int).Mul(toward, big.NewInt(255))
	most.Mul(most, most)
	one := new(big.Int).Mul(dot(face, face), dot(light, light))
	for v := int64(255); ; v-- {
		if new(big.Int).Mul(big.NewInt(v*v), one).Cmp(most) <= 0 {
			return int(v)
		}
	}
}

// dot product, of any length.
func dot(a, b [3]int) *big.Int {
	sum := new(big.Int)
	for i := range a {
		sum.Add(sum, new(big.Int).Mul(big.NewInt(int64(a[i])), big.NewInt(int64(b[i]))))
	}
	return sum
}

// steep ground of three times three cells, whose middle one has the slopes of 8 times these.
func steep(east, north int) api.Raster {
	return raster(3, north-east, north, north+east, -east, 0, east, -north-east, -north, east-north)
}

// P102: worked out by hand: flat ground, ground that faces the light, ground from behind, and what is just as bright as a number.
func TestShade(t *testing.T) {
	one := flat(1, 1, 5)
	for _, c := range []struct {
		a     api.Raster
		cell  int
		light [3]int
		want  int
	}{
		{one, 0, [3]int{0, 0, 1}, 255},
		{one, 0, [3]int{0, 0, 1024}, 255},
		{one, 0, [3]int{0, 0, -1}, 0},
		{one, 0, [3]int{1, 0, 0}, 0},
		{one, 0, [3]int{0, -1, 0}, 0},
		{one, 0, [3]int{1, 0, 1}, 180},
		{one, 0, [3]int{3, 0, 4}, 204},
		{one, 0, [3]int{0, -4, 3}, 153},
		{one, 0, [3]int{1024, 1024, 1}, 0},
		{one, 0, [3]int{255, 0, 1}, 0},
		{one, 0, [3]int{254, 0, 1}, 1},
		{one, 0, [3]int{1, 0, 1024}, 254},
		{steep(256, 0), 4, [3]int{-1, 0, 1}, 255},
		{steep(256, 0), 4, [3]int{1, 0, 1}, 0},
		{steep(256, 0), 4, [3]int{1023, 0, 1024}, 0},
		{steep(-256, 0), 4, [3]int{1, 0, 1}, 255},
		{steep(0, 256), 4, [3]int{0, -1, 1}, 255},
		{steep(0, -256), 4, [3]int{0, 1, 1}, 255},
		{steep(0, -256), 4, [3]int{0, 1, 0}, 180},
		{steep(256*1024, 0), 4, [3]int{-1024, 0, 1}, 255},
		{steep(256*1024, 0), 4, [3]int{-1024, 0, 0}, 254},
		{steep(256*1024, 0), 4, [3]int{-1024, 0, 2}, 254},
		{steep(256*512, 256*512), 4, [3]int{-512, -512, 1}, 255},
		{steep(256*512, 256*512), 4, [3]int{-1024, -1024, 2}, 255},
		{steep(256*512, 256*512), 4, [3]int{-1024, -1024, 3}, 254},
		{steep(256*512, 256*512), 4, [3]int{-512, -511, 1}, 254},
	} {
		if got, err := relief.Shade(c.a, c.cell, c.light); err != nil || got != c.want {
			t.Error(c.a, c.cell, c.light, got, err, c.want)
		}
	}
}

// P102: which light there can be.
func TestShadeWrong(t *testing.T) {
	a := steep(1, 2)
	for _, n := range []int{1025, -1025, math.MaxInt, math.MinInt, math.MinInt + 1, 1 << 32} {
		for i := range 3 {
			light := [3]int{1, 1, 1}
			light[i] = n
			if v, err := relief.Shade(a, 4, light); err != api.ErrShape || v != 0 {
				t.Error(light, v, err)
			}
		}
	}
	if v, err := relief.Shade(a, 4, [3]int{}); err != api.ErrShape || v != 0 {
		t.Error(v, err)
	}
	for _, light := range [][3]int{{1024, 1024, 1024}, {-1024, -1024, -1024}, {0, 0, 1}, {0, 1, 0}, {1, 0, 0}} {
		if v, err := relief.Shade(a, 4, light); err != nil || v != shadeOf(a, 4, light) {
			t.Error(light, v, err)
		}
	}
}

// lights of many sizes, from right above the first one.
func lights(r *rand.Rand) [][3]int {
	out := [][3]int{{0, 0, 1}}
	for _, size := range []int{1, 9, 1024} {
		light := [3]int{r.Intn(2*size+1) - size, r.Intn(2*size+1) - size, r.Intn(2*size+1) - size}
		if light != [3]int{} {
			out = append(out, light)
		}
	}
	return out
}

// P102: many rasters and lights, the greatest slopes and lights among them.
func TestShadeSamples(t *testing.T) {
	r := rand.New(rand.NewSource(112))
	seen := map[int]int{}
	most := api.MaxHigh
	all := append(samples(113), raster(3, -most, most, most, -most, 0, most, -most, -most, most), raster(3, most, most, most, most, 0, -most, -most, -most, -most))
	for range 40 {
		all = append(all, sample(r, 3, 3, 400))
	}
	for _, a := range all {
		for cell := range a.L {
			for _, light := range lights(r) {
				got, err := relief.Shade(a, cell, light)
				if err != nil || got != shadeOf(a, cell, light) {
					t.Fatal(a, cell, light, got, err, shadeOf(a, cell, light))
				}
				seen[got]++
			}
		}
	}
	if len(seen) < 200 || seen[255] == 0 || seen[0] == 0 {
		t.Error("samples are too much alike", len(seen))
	}
}
