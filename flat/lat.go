package flat

import (
	"math"

	"mercator/globe"
	"mercator/grain"
)

// Iso: the isometric latitude.
func Iso(g globe.Globe, lat int) float64 {
	e, s := math.Sqrt(g.Bulge()), grain.Sin(lat)
	return grain.Unsigned((grain.Ln((1+s)/(1-s)) - float64(e*lean(e, s))) / 2)
}

// Lat of an isometric latitude.
func Lat(g globe.Globe, iso float64) int {
	return find(iso, func(lat int) float64 { return Iso(g, lat) })
}

// find the greatest latitude for which what rises with it is not above a goal; the southern end, if there is none.
func find(goal float64, rising func(lat int) float64) int {
	lo, hi := -farthest, farthest+1
	for hi-lo > 1 {
		m := (lo + hi) >> 1 // rounded down, below 0 too
		if rising(m) <= goal {
			lo = m
		} else {
			hi = m
		}
	}
	return lo
}

// belt: twice the area of a piece that is a radian wide, from the equator to the latitude of a sine, where A is 1.
func belt(g globe.Globe, s float64) float64 {
	e := g.Bulge()
	root := math.Sqrt(e)
	if root == 0 {
		return float64(2 * s)
	}
	return float64((1 - e) * (s/thin(e, s) + lean(root, s)/float64(2*root)))
}

// lean: what a meridian's eccentricity adds at the latitude of a sine.
func lean(e, s float64) float64 {
	es := float64(e * s)
	return grain.Ln((1 + es) / (1 - es))
}

// thin: what the flattening takes away at the latitude of a sine.
func thin(e, s float64) float64 { return 1 - float64(float64(e*s)*s) }
