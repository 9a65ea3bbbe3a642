package desk_test

import (
	"bytes"
	"math"
	"math/rand"
	"testing"

	"mercator/api"
	"mercator/desk"
	"mercator/field"
)

// tileOf a raster as it is now, cell by cell.
func tileOf(t *testing.T, a api.Raster, col, row int) []byte {
	t.Helper()
	var out api.Raster
	for y := 16 * row; y <= 16*row+16 && y < a.High; y++ {
		out.High++
		out.Wide = 0
		for x := 16 * col; x <= 16*col+16 && x < a.Wide; x++ {
			out.Wide++
			out.L = append(out.L, a.L[y*a.Wide+x])
		}
	}
	b, err := field.Tile(out)
	if err != nil {
		t.Fatal(out, err)
	}
	return b
}

// tilesOf a raster, row by row.
func tilesOf(t *testing.T, a api.Raster) [][]byte {
	t.Helper()
	var out [][]byte
	for row := 0; 16*row < a.High; row++ {
		for col := 0; 16*col < a.Wide; col++ {
			out = append(out, tileOf(t, a, col, row))
		}
	}
	return out
}

// all tiles, by so many workers, as they should be; each is new memory.
func all(t *testing.T, d *desk.Desk, workers int) {
	t.Helper()
	want := tilesOf(t, d.Raster())
	for range 2 {
		l, err := d.All(workers)
		if err != nil || len(l) != len(want) {
			t.Fatal(workers, len(l), err)
		}
		for n, b := range l {
			if !bytes.Equal(b, want[n]) {
				t.Error(workers, n, b, want[n])
			}
			b = b[:cap(b)]
			clear(b)
		}
	}
}

// made: so many tiles, since it was asked last.
func made(t *testing.T, d *desk.Desk, want int) {
	t.Helper()
	if got := d.Made(); got != want {
		t.Error(got, want)
	}
}

// P163: how many tiles there are, and how large those at the ends.
func TestTiles(t *testing.T) {
	for _, c := range []struct{ cells, many, last int }{
		{1, 1, 1}, {2, 1, 2}, {15, 1, 15}, {16, 1, 16}, {17, 2, 1}, {18, 2, 2}, {31, 2, 15}, {32, 2, 16}, {33, 3, 1}, {127, 8, 15}, {128, 8, 16},
	} {
		d := open(t, flat(c.cells, 2, 5))
		if wide, high := d.Tiles(); wide != c.many || high != 1 {
			t.Error(c, wide, high)
		}
		b, err := d.Tile(c.many-1, 0)
		if a, wrong := field.Untile(b); err != nil || wrong != nil || !same(a, flat(c.last, 2, 5)) {
			t.Error(c, a, err, wrong)
		}
		d = open(t, flat(2, c.cells, 5))
		if wide, high := d.Tiles(); wide != 1 || high != c.many {
			t.Error(c, wide, high)
		}
		b, err = d.Tile(0, c.many-1)
		if a, wrong := field.Untile(b); err != nil || wrong != nil || !same(a, flat(2, c.last, 5)) {
			t.Error(c, a, err, wrong)
		}
		if c.many > 1 {
			b, _ = d.Tile(0, 0)
			if a, _ := field.Untile(b); !same(a, flat(2, 17, 5)) {
				t.Error(c, a)
			}
		}
	}
}

// P163: neighbours agree at their seams.
func TestSeams(t *testing.T) {
	r := rand.New(rand.NewSource(163))
	d := open(t, sample(r, 40, 40, api.MaxHigh), edit(16*40+16, 5, 0, "a"))
	var parts [4]api.Raster
	for n := range parts {
		b, err := d.Tile(n%2, n/2)
		if err != nil {
			t.Fatal(err)
		}
		parts[n], _ = field.Untile(b)
	}
	for i := range 17 {
		if parts[0].L[i*17+16] != parts[1].L[i*17] || parts[0].L[16*17+i] != parts[2].L[i] {
			t.Error(i)
		}
	}
	if parts[0].L[16*17+16] != 5 || parts[3].L[0] != 5 {
		t.Error("the corner that four have in common")
	}
}

// P163: samples, with edits, however many work; what is answered is new each time.
func TestTileSamples(t *testing.T) {
	r := rand.New(rand.NewSource(164))
	for _, s := range [][2]int{{1, 1}, {16, 16}, {17, 16}, {16, 17}, {17, 17}, {5, 40}, {50, 3}, {33, 34}, {128, 128}, {128, 1}, {1, 128}} {
		a := sample(r, s[0], s[1], []int{3, 1000, api.MaxHigh}[r.Intn(3)])
		for workers := 1; workers <= api.Workers; workers++ {
			all(t, open(t, a), workers)
		}
		d := open(t, a)
		wide, high := d.Tiles()
		for range 30 {
			do(t, d, some(r, len(a.L), r.Intn(5))...)
			col, row := r.Intn(wide), r.Intn(high)
			for range 2 {
				b, err := d.Tile(col, row)
				if err != nil || !bytes.Equal(b, tileOf(t, d.Raster(), col, row)) {
					t.Fatal(s, col, row, b, err)
				}
				clear(b)
			}
			all(t, d, 1+r.Intn(api.Workers))
		}
	}
}

// P163: tiles that there are not, and workers that cannot be; nothing is made then.
func TestWrongTiles(t *testing.T) {
	d := open(t, flat(33, 18, 0))
	for _, n := range []int{-1, 3, 4, math.MaxInt, math.MinInt} {
		for _, c := range [][2]int{{n, 0}, {0, n}, {n, n}, {n, 1}, {2, n}} {
			if b, err := d.Tile(c[0], c[1]); len(b) > 0 || err != api.ErrRange {
				t.Error(c, b, err)
			}
		}
	}
	if b, err := d.Tile(0, 2); len(b) > 0 || err != api.ErrRange {
		t.Error(b, err)
	}
	for _, workers := range []int{0, -1, api.Workers + 1, math.MaxInt, math.MinInt} {
		if l, err := d.All(workers); len(l) > 0 || err != api.ErrShape {
			t.Error(workers, len(l), err)
		}
	}
	made(t, d, 0)
}

// tell a tile.
func tell(t *testing.T, d *desk.Desk, col, row int) {
	t.Helper()
	if b, err := d.Tile(col, row); err != nil || !bytes.Equal(b, tileOf(t, d.Raster(), col, row)) {
		t.Error(col, row, b, err)
	}
}

// P164: tiles are made when they are asked for, and once.
func TestMade(t *testing.T) {
	for workers := 1; workers <= api.Workers; workers++ {
		d := open(t, flat(33, 18, 3))
		made(t, d, 0)
		tell(t, d, 1, 1)
		tell(t, d, 0, 0)
		tell(t, d, 1, 1)
		made(t, d, 2)
		made(t, d, 0)
		all(t, d, workers)
		made(t, d, 4)
		tell(t, d, 2, 1)
		all(t, d, 17-workers)
		made(t, d, 0)
	}
}

// P164: which tiles have a cell: of the seams two or four; those that were told alone are made again, when they are asked for.
func TestMadeAgain(t *testing.T) {
	d := open(t, flat(33, 18, 3))
	all(t, d, 4)
	made(t, d, 6)
	for n, c := range []struct{ cell, want int }{
		{0, 1}, {15, 1}, {16, 2}, {17, 1}, {31, 1}, {32, 2}, {15*33 + 15, 1}, {16 * 33, 2}, {16*33 + 16, 4}, {16*33 + 32, 4}, {16*33 + 17, 2}, {17*33 + 5, 1}, {17*33 + 16, 2}, {17*33 + 32, 2},
	} {
		do(t, d, edit(c.cell, 100+n, 1, "a"))
		made(t, d, 0)
		all(t, d, 1+n)
		made(t, d, c.want)
	}
	do(t, d, edit(16*33+16, 500, 1, "a"))
	tell(t, d, 2, 0)
	made(t, d, 0)
	tell(t, d, 0, 0)
	made(t, d, 1)
	all(t, d, 2)
	made(t, d, 3)
}

// P164: edits that change no height: of the height that is there, earlier ones, ones that are there, wrong ones; and those after which it is as it was told.
func TestNotMadeAgain(t *testing.T) {
	d := open(t, flat(33, 18, 3))
	all(t, d, 4)
	made(t, d, 6)
	do(t, d, edit(5, 3, 4, "b"), edit(5, 9, 3, "b"), edit(5, 9, 4, "a"), edit(5, 2, 4, "b"), edit(5, 3, 4, "b"), edit(16, 3, 9, "c"))
	if d.Do(edit(5, 9, 9, "")) == nil || d.Do(edit(5, api.MaxHigh+1, 9, "a")) == nil {
		t.Error("no errors")
	}
	all(t, d, 4)
	made(t, d, 0)
	do(t, d, edit(16, 50, 10, "c"), edit(16, 3, 11, "c"))
	all(t, d, 4)
	made(t, d, 0)
	do(t, d, edit(16, 50, 12, "c"))
	all(t, d, 4)
	made(t, d, 2)
	do(t, d, edit(16, 3, 13, "c"))
	all(t, d, 4)
	made(t, d, 2)
}

// P164: what comes by a merge, and what a log had.
func TestMadeOfMerges(t *testing.T) {
	a := flat(33, 18, 3)
	d, o := open(t, a), open(t, a, edit(0, 9, 1, "a"), edit(0, 3, 2, "a"), edit(17, 9, 1, "a"), edit(17*33+32, 8, 1, "a"))
	all(t, d, 3)
	made(t, d, 6)
	made(t, o, 0)
	merge(t, d, o)
	all(t, d, 3)
	made(t, d, 3)
	merge(t, d, o, d)
	merge(t, o, d)
	all(t, d, 3)
	made(t, d, 0)
	all(t, o, 3)
	made(t, o, 6)
	if d.Merge(open(t, flat(33, 18, 4), edit(1, 1, 1, "a"))) != api.ErrShape {
		t.Error("another raster")
	}
	all(t, d, 3)
	made(t, d, 0)
	again, _, err := desk.Open(a, d.Log())
	if err != nil {
		t.Fatal(err)
	}
	made(t, again, 0)
	all(t, again, 16)
	made(t, again, 6)
}

// P164: samples: as many as have other heights than were told of them last.
func TestMadeSamples(t *testing.T) {
	r := rand.New(rand.NewSource(165))
	for range 20 {
		a := sample(r, 1+r.Intn(50), 1+r.Intn(50), 2)
		d := open(t, a)
		wide, high := d.Tiles()
		last := make([][]byte, wide*high)
		for range 30 {
			l := some(r, len(a.L), r.Intn(8))
			if r.Intn(2) == 0 {
				do(t, d, l...)
			} else {
				merge(t, d, open(t, a, l...))
			}
			want := 0
			for n, b := range tilesOf(t, d.Raster()) {
				if r.Intn(3) > 0 {
					if !bytes.Equal(last[n], b) {
						want++
					}
					last[n] = b
					tell(t, d, n%wide, n/wide)
				}
			}
			made(t, d, want)
		}
	}
}
