package grid_test

import (
	"math"
	"strings"
	"testing"

	"mercator/api"
	"mercator/grid"
)

// P63.
func TestSquare(t *testing.T) {
	for _, c := range []struct {
		ref  grid.Ref
		many int
		want string
	}{
		{ref(32, north, 465123, 5247890), 0, "EN"},
		{ref(32, north, 465123, 5247890), 1, "EN64"},
		{ref(32, north, 465123, 5247890), 2, "EN6547"},
		{ref(32, north, 465123, 5247890), 3, "EN651478"},
		{ref(32, north, 465123, 5247890), 4, "EN65124789"},
		{ref(32, north, 465123, 5247890), 5, "EN6512347890"},
		{ref(1, north, 0, 0), 0, "AA"},
		{ref(1, north, 0, 0), 5, "AA0000000000"},
		{ref(60, south, 999999, 9999999), 0, "KV"},
		{ref(60, south, 999999, 9999999), 5, "KV9999999999"},
		{ref(60, south, 999999, 9999999), 3, "KV999999"},
		{ref(9, north, 99999, 99999), 1, "AA99"},
		{ref(9, north, 100000, 100000), 1, "BB00"},
		{ref(9, south, 700042, 2000007), 5, "HA0004200007"},
		{ref(9, south, 700042, 2000007), 3, "HA000000"},
		{ref(9, south, 800042, 2900007), 4, "JK00040000"},
	} {
		if s, err := c.ref.Square(c.many); s != c.want || err != nil {
			t.Error(c, s, err)
		}
		if !c.ref.In(c.want) {
			t.Error(c)
		}
	}
}

// P63: each column and each row has its letter; behind the twentieth row the first letter follows.
func TestSquareLetters(t *testing.T) {
	const letters = "ABCDEFGHJKLMNPQRSTUV"
	for col := range 10 {
		for row := range 100 {
			want := string([]byte{letters[col], letters[row%20]})
			for _, in := range []int{0, 1, 50000, 99999} {
				r := ref(17, row%2 == 0, 100000*col+in, 100000*row+99999-in)
				if s, err := r.Square(0); s != want || err != nil {
					t.Error(r, s, want, err)
				}
			}
		}
	}
}

// P63.
func TestSquareOfWrongDigits(t *testing.T) {
	for _, many := range []int{-1, 6, -5, 100, math.MaxInt, math.MinInt} {
		if s, err := ref(32, north, 465123, 5247890).Square(many); s != "" || err != api.ErrShape {
			t.Error(many, s, err)
		}
	}
}

// P63.
func TestNotIn(t *testing.T) {
	r := ref(32, north, 465123, 5247890)
	for _, s := range []string{
		"", "E", "N", "NE", "en", "FN", "EM", "EN6", "EN65", "EN46", "EN654", "EN6546", "EN6548", "EN 65", "EN65 ", " EN", "EN\x00\x00",
		"EN651234789", "EN651234789O", "EN65123478901", "EN651234789011", "EN065123047890", "EN6512347891", "EN6512447890",
		strings.Repeat("E", api.MaxText), "ÉN", "\xff\xff",
	} {
		if r.In(s) {
			t.Errorf("%q", s)
		}
	}
}

// P63: whoever is in a small square is in the greater ones around it too, in whatever zone.
func TestInGreaterSquares(t *testing.T) {
	for _, r := range []grid.Ref{ref(1, south, 31, 9120045), ref(32, north, 465123, 5247890), ref(60, north, 999999, 1), ref(5, south, 500000, 5000000)} {
		for many := range 6 {
			s, err := r.Square(many)
			if err != nil || len(s) != 2+2*many || !r.In(s) {
				t.Error(r, many, s, err)
			}
			side := 100000
			for range many {
				side /= 10
			}
			corner := ref(61-r.Zone, !r.South, r.East/side*side, r.North/side*side)
			far := ref(r.Zone, r.South, corner.East+side-1, corner.North+side-1)
			beside := ref(r.Zone, r.South, (corner.East+side)%1000000, corner.North)
			if !corner.In(s) || !far.In(s) || beside.In(s) {
				t.Error(r, many, s, corner, far, beside)
			}
		}
	}
}
