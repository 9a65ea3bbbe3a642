package field_test

import (
	"bytes"
	"encoding/binary"
	"math/rand"
	"slices"
	"testing"

	"mercator/api"
	"mercator/field"
)

// tiled: what a tile's bytes are, by the library's numbers of the same form.
func tiled(a api.Raster) []byte {
	b := binary.AppendUvarint(nil, uint64(a.Wide))
	b = binary.AppendUvarint(b, uint64(a.High))
	ahead := 0
	for _, height := range a.L {
		b = binary.AppendVarint(b, int64(height-ahead))
		ahead = height
	}
	return b
}

// P96: rows that were worked out by hand.
func TestTiles(t *testing.T) {
	for _, c := range []struct {
		a    api.Raster
		want []byte
	}{
		{raster(1, 0), []byte{1, 1, 0}},
		{raster(1, 1), []byte{1, 1, 2}},
		{raster(1, -1), []byte{1, 1, 1}},
		{raster(3, 5, 5, 4), []byte{3, 1, 10, 0, 1}},
		{raster(1, 5, 5, 4), []byte{1, 3, 10, 0, 1}},
		{raster(2, 63, 0, 64, 0), []byte{2, 2, 126, 125, 128, 1, 127}},
		{raster(1, -64), []byte{1, 1, 127}},
		{raster(1, -65), []byte{1, 1, 129, 1}},
		{raster(1, 8191), []byte{1, 1, 254, 127}},
		{raster(1, 8192), []byte{1, 1, 128, 128, 1}},
		{raster(1, -8192), []byte{1, 1, 255, 127}},
		{raster(2, api.MaxHigh, -api.MaxHigh), []byte{2, 1, 128, 128, 128, 1, 255, 255, 255, 1}},
		{raster(2, -api.MaxHigh, api.MaxHigh), []byte{2, 1, 255, 255, 127, 128, 128, 128, 2}},
		// A side is such a number, too.
		{flat(api.MaxSide, 1, 0), append([]byte{128, 1, 1}, make([]byte, api.MaxSide)...)},
		{flat(1, api.MaxSide, 0), append([]byte{1, 128, 1}, make([]byte, api.MaxSide)...)},
		{flat(127, 2, 0), append([]byte{127, 2}, make([]byte, 254)...)},
	} {
		if got, err := field.Tile(c.a); err != nil || !bytes.Equal(got, c.want) {
			t.Error(c.a, got, err, c.want)
		}
		if got, err := field.Untile(c.want); err != nil || !same(got, c.a) {
			t.Error(c.want, got, err, c.a)
		}
	}
}

// P96: samples, and the greatest raster.
func TestTileSamples(t *testing.T) {
	r := rand.New(rand.NewSource(96))
	for _, a := range append(samples(97), sample(r, api.MaxSide, api.MaxSide, api.MaxHigh), sample(r, api.MaxSide, api.MaxSide, 40)) {
		b, err := field.Tile(a)
		if err != nil || !bytes.Equal(b, tiled(a)) {
			t.Error(a, b, err)
		}
		if back, err := field.Untile(b); err != nil || !same(back, a) {
			t.Error(a, back, err)
		}
	}
}

// untiled: no tile, and nothing but that is told.
func untiled(t *testing.T, b []byte) {
	t.Helper()
	if got, err := field.Untile(b); err != api.ErrFile || !nothing(got) {
		t.Error(b, got, err)
	}
}

// P96: bytes that are no tile.
func TestWrongTiles(t *testing.T) {
	zeros := make([]byte, api.MaxSide*api.MaxSide+200)
	for _, b := range [][]byte{
		nil, {}, {0}, {1}, {128}, {1, 1}, {1, 128}, {2, 1, 0}, {2, 2, 0, 0, 0},
		{0, 0}, {0, 1}, {1, 0}, {0, 1, 0}, {1, 0, 0}, {0, 0, 0},
		append([]byte{129, 1, 1}, zeros[:129]...), append([]byte{1, 129, 1}, zeros[:129]...), append([]byte{128, 2, 1}, zeros[:256]...), append([]byte{129, 1, 129, 1}, zeros...),
		{1, 1, 0, 0}, {1, 1, 2, 2}, {1, 1, 0, 128}, {1, 1, 0, 1, 2, 3, 4},
		// Sides and heights that take more bytes than they need.
		{129, 0, 1, 0}, {1, 129, 0, 0}, {1, 1, 128, 0}, {1, 1, 130, 0}, {1, 1, 130, 128, 0}, {1, 1, 255, 255, 0}, {1, 1, 130, 128, 128, 0}, {1, 1, 130, 128, 128, 128, 0},
		// Numbers without an end.
		{1, 1, 128}, {1, 1, 255, 255}, {1, 1, 255, 255, 255}, {1, 1, 255, 255, 255, 255}, {255, 255, 255, 255},
		// Heights above MaxHigh and below -MaxHigh, at once or by and by.
		{1, 1, 130, 128, 128, 1}, {1, 1, 129, 128, 128, 1}, {1, 1, 255, 255, 255, 127}, {1, 1, 254, 255, 255, 127},
		{2, 1, 128, 128, 128, 1, 2}, {2, 1, 255, 255, 127, 1}, {3, 1, 128, 128, 128, 1, 2, 1},
		// Numbers that no difference has, however they wrap round.
		{1, 1, 128, 128, 128, 128, 1}, {1, 1, 130, 128, 128, 128, 16}, {1, 1, 130, 128, 128, 128, 128, 128, 128, 128, 128, 2}, {1, 1, 128, 128, 128, 128, 128, 128, 128, 128, 128, 1}, {129, 128, 128, 128, 16, 1, 0}, {129, 128, 128, 128, 128, 128, 128, 128, 128, 2, 1, 0},
		append([]byte{1, 1}, append(slices.Repeat([]byte{128}, 5000), 1)...), slices.Repeat([]byte{255}, 300000), slices.Repeat([]byte{1}, 300000),
	} {
		untiled(t, b)
	}
}

// read: what a tile says, as far as it says something; it may not be the tile of it.
func read(b []byte) (api.Raster, bool) {
	var sides [2]int
	for i := range sides {
		n, size := binary.Uvarint(b)
		if size <= 0 || n < 1 || n > api.MaxSide {
			return api.Raster{}, false
		}
		sides[i], b = int(n), b[size:]
	}
	out, height := api.Raster{Wide: sides[0], High: sides[1]}, 0
	for range sides[0] * sides[1] {
		d, size := binary.Varint(b)
		if size <= 0 || d > 1<<30 || d < -1<<30 {
			return api.Raster{}, false
		}
		height, b = height+int(d), b[size:]
		if height > api.MaxHigh || height < -api.MaxHigh {
			return api.Raster{}, false
		}
		out.L = append(out.L, height)
	}
	return out, true
}

// held: bytes against what the library's numbers say of them; it tells whether they are a tile.
func held(t *testing.T, b []byte) bool {
	t.Helper()
	a, ok := read(b)
	if !ok || !bytes.Equal(tiled(a), b) {
		untiled(t, b)
		return false
	}
	if got, err := field.Untile(b); err != nil || !same(got, a) {
		t.Error(b, got, err, a)
	}
	return true
}

// P96: tiles with some bytes changed, and all short ones.
func TestChangedTiles(t *testing.T) {
	r := rand.New(rand.NewSource(97))
	right, wrong := 0, 0
	for range 60000 {
		b := tiled(sample(r, 1+r.Intn(3), 1+r.Intn(3), []int{1, 100, 10000, api.MaxHigh}[r.Intn(4)]))
		for range 1 + r.Intn(2) {
			at, with := r.Intn(len(b)), byte(r.Intn(256))
			switch r.Intn(4) {
			case 0:
				b[at] = with
			case 1:
				b[at] ^= 128
			case 2:
				b = slices.Insert(b, at, with)
			default:
				b = slices.Delete(b, at, at+1)
			}
		}
		if held(t, b) {
			right++
		} else {
			wrong++
		}
	}
	for first := range 256 {
		for second := range 256 {
			for _, side := range [][]byte{{}, {1}, {1, 1}, {2, 1}, {1, 2}, {1, 1, 128}, {1, 1, 129, 128}, {1, 1, 255, 255}} {
				held(t, append(slices.Clone(side), byte(first), byte(second)))
			}
		}
	}
	if right < 5000 || wrong < 5000 {
		t.Error("samples are too much alike", right, wrong)
	}
}

// P3, P4: bytes are only read, and nothing behind their length is; what is answered is new memory.
func TestTileMemory(t *testing.T) {
	a := raster(2, 1, -63, 300, 300)
	b, err := field.Tile(a)
	if err != nil {
		t.Fatal(err)
	}
	for cut := range len(b) + 1 {
		all := append(slices.Clone(b), 1, 2, 3)
		got, err := field.Untile(all[:cut])
		if (err == nil) != (cut == len(b)) || !bytes.Equal(all, append(slices.Clone(b), 1, 2, 3)) {
			t.Error(cut, got, err, all)
		}
	}
	got, _ := field.Untile(b)
	clear(b)
	again, err := field.Tile(a)
	if !same(got, a) || err != nil || !bytes.Equal(again, tiled(a)) {
		t.Error(got, again, err)
	}
}
