package fix

import (
	"mercator/api"
	"mercator/whole"
)

// all points of a circle are on both.
const all = -1

// Between two circles: points that are on both; the square of the chord.
func Between(a, b Range) (int, api.Frac, error) {
	if err := Valid([]Range{a, b}); err != nil {
		return 0, api.Frac{}, err
	}
	none := api.Frac{Den: 1}
	if a.From == b.From {
		return around(a.Square, b.Square), none, nil
	}
	far := apart(a.From, b.From)
	num := chord(far, a.Square, b.Square)
	if num.Sign() <= 0 {
		return num.Sign() + 1, none, nil
	}
	long, err := whole.Frac(num, whole.Of(far))
	if err != nil {
		return 0, api.Frac{}, err
	}
	return 2, long, nil
}

// around one point: how many points are on both circles, of which that of radius 0 is one point.
func around(a, b int) int {
	if a != b {
		return 0
	}
	if a == 0 {
		return 1
	}
	return all
}

// chord: the square of how long it is, times far (the square between the points): below 0, where the circles do not meet. The chord's middle is (far + a - b) over twice the root of far away from the first point.
func chord(far, a, b int) whole.Number {
	middle := whole.Of(far + a - b)
	return whole.Of(4 * far).Times(whole.Of(a)).Less(middle.Times(middle))
}
