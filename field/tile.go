package field

import "mercator/api"

const (
	bits    = 7         // of a number, in a byte
	more    = 1 << bits // is in a byte, if another one follows
	longest = 4         // bytes of a number: the greatest difference between heights is twice MaxHigh, its number twice that
)

// Tile of a raster.
func Tile(a api.Raster) ([]byte, error) {
	if err := Valid(a); err != nil {
		return nil, err
	}
	out := packed(packed(nil, a.Wide), a.High)
	ahead := 0
	for _, height := range a.L {
		out = packed(out, folded(height-ahead))
		ahead = height
	}
	return out, nil
}

// Untile a raster.
func Untile(b []byte) (a api.Raster, err error) {
	var n, height int
	var ok bool
	if a.Wide, b, ok = unpacked(b); !ok || !side(a.Wide) {
		goto wrong
	}
	if a.High, b, ok = unpacked(b); !ok || !side(a.High) {
		goto wrong
	}
	for range a.Wide * a.High {
		if n, b, ok = unpacked(b); !ok {
			goto wrong
		}
		height += unfolded(n)
		a.L = append(a.L, height)
	}
	if len(b) == 0 && Valid(a) == nil {
		return a, nil
	}
wrong:
	return api.Raster{}, api.ErrFile
}

// packed behind bytes: a number from 0 on.
func packed(b []byte, n int) []byte {
	for ; n >= more; n >>= bits {
		b = append(b, byte(n%more+more))
	}
	return append(b, byte(n))
}

// unpacked: the number that bytes begin with, and those behind it; false: they begin with none that a tile has, or with one that takes more bytes than it needs.
func unpacked(b []byte) (int, []byte, bool) {
	n := 0
	for i := range min(len(b), longest) {
		n += int(b[i]%more) << (i * bits)
		if b[i] < more {
			return n, b[i+1:], i == 0 || b[i] > 0
		}
	}
	return 0, nil, false
}

// folded: a difference, as a number from 0 on.
func folded(d int) int {
	if d < 0 {
		return -2*d - 1
	}
	return 2 * d
}

// unfolded: the difference again.
func unfolded(n int) int {
	if n%2 == 1 {
		return -(n + 1) / 2
	}
	return n / 2
}
