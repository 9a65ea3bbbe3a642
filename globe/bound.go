package globe

import (
	"mercator/api"
	"mercator/grain"
)

// within bounds, all of the numbers? A NaN never is.
func within(low, high float64, numbers ...float64) bool {
	for _, x := range numbers {
		if !(x >= low && x <= high) {
			return false
		}
	}
	return true
}

// unsigned: a vector none of whose zeros has a sign.
func unsigned(v api.Vec) api.Vec {
	return api.Vec{X: grain.Unsigned(v.X), Y: grain.Unsigned(v.Y), Z: grain.Unsigned(v.Z)}
}
