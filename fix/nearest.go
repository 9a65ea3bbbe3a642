package fix

import "mercator/api"

const mostPoints = 100000 // of a box that is looked through

// Miss of a point.
func Miss(l []Range, at api.Spot) (int, error) {
	if err := Valid(l); err != nil {
		return 0, err
	}
	if !placed(at) {
		return 0, api.ErrShape
	}
	return missed(l, at), nil
}

// missed: of valid ranges. Each misses by at most 2^52, so that an int holds the sum.
func missed(l []Range, at api.Spot) int {
	sum := 0
	for _, r := range l {
		by := apart(at, r.From) - r.Square
		sum += max(by, -by)
	}
	return sum
}

// Nearest point of a box.
func Nearest(l []Range, in api.Box) (api.Spot, int, error) {
	if err := Valid(l); err != nil {
		return api.Spot{}, 0, err
	}
	if !placed(in.Low) || !placed(in.High) || in.Low.X > in.High.X || in.Low.Y > in.High.Y {
		return api.Spot{}, 0, api.ErrShape
	}
	if (in.High.X-in.Low.X+1)*(in.High.Y-in.Low.Y+1) > mostPoints {
		return api.Spot{}, 0, api.ErrBound
	}
	nearest, least := in.Low, missed(l, in.Low)
	for x := in.Low.X; x <= in.High.X; x++ {
		for y := in.Low.Y; y <= in.High.Y; y++ {
			at := api.Spot{X: x, Y: y}
			if miss := missed(l, at); miss < least {
				nearest, least = at, miss
			}
		}
	}
	return nearest, least, nil
}

// Proved: no point of the box is better.
func Proved(l []Range, in api.Box, at api.Spot, miss int) bool {
	if at.X < in.Low.X || at.X > in.High.X || at.Y < in.Low.Y || at.Y > in.High.Y {
		return false
	}
	_, least, err := Nearest(l, in)
	return err == nil && miss == least && missed(l, at) == miss
}
