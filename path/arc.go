package path

import (
	"math"

	"mercator/globe"
	"mercator/grain"
)

const (
	rounds = 60                // of an iteration
	half   = 3.141592653589793 // of a turn, in radians
	near   = 1e-11             // longitudes that count as one
)

// arc of a great circle, on the ball of reduced latitudes: what a geodesic becomes there.
type arc struct {
	sides         // of its length
	long  float64 // its length, in radians
	lean  float64 // the sine of its azimuth on the equator
	rise  float64 // the square of that azimuth's cosine
	mid   float64 // the cosine of twice the way from the equator to its middle
}

// crossing: an arc from one latitude to another, with its headings at both ends.
type crossing struct {
	arc
	out, in heading
}

// settle how many radians of longitude two places are apart on the ball, if on the globe they are apart by so many: the one hangs on the arc, the arc on the other. False: it does not settle.
func settle(f float64, first, second sides, apart float64) (crossing, bool) {
	l := apart
	look := func() crossing { return cross(first, second, l) }
	for range rounds {
		if math.Abs(l) > half {
			return crossing{}, false
		}
		next := apart + look().drift(f)
		still := math.Abs(next-l) <= near
		l = next
		if still {
			return look(), math.Abs(l) <= half
		}
	}
	return crossing{}, false
}

// cross from one latitude to another, over so many radians of longitude.
func cross(first, second sides, l float64) crossing {
	turn := sidesOf(grain.Nearest(l))
	sines, cosines := float64(first.sin*second.sin), float64(first.cos*second.cos)
	up, down := float64(first.cos*second.sin), float64(first.sin*second.cos)
	out := heading{east: float64(second.cos * turn.sin), north: up - float64(down*turn.cos)}
	in := heading{east: float64(first.cos * turn.sin), north: float64(up*turn.cos) - down}
	a := arc{sides: sides{
		sin: math.Sqrt(float64(out.east*out.east) + float64(out.north*out.north)),
		cos: sines + float64(cosines*turn.cos),
	}}
	a.long = radians(angleOf(a.sin, a.cos))
	if a.sin != 0 {
		a.lean = float64(cosines*turn.sin) / a.sin
	}
	a.rise = 1 - float64(a.lean*a.lean)
	if a.rise != 0 {
		a.mid = a.cos - float64(2*sines)/a.rise
	}
	return crossing{arc: a, out: out, in: in}
}

// along a course from a latitude: the arc of so many metres.
func along(g globe.Globe, lat, course sides, far float64) arc {
	lean := float64(lat.cos * course.sin)
	rise := 1 - float64(lean*lean)
	radius, q := measure(g, rise)
	begin := radians(angleOf(lat.sin, float64(lat.cos*course.cos)))
	even := far / radius
	long := even
	look := func() arc {
		mid := grain.Cos(grain.Nearest(float64(2*begin) + long))
		return arc{sides: sidesOf(grain.Nearest(long)), long: long, lean: lean, rise: rise, mid: mid}
	}
	for range rounds {
		long = even + look().sway(q)
	}
	return look()
}

// measure of arcs that rise so: how many metres a radian is in the mean, and by what they sway around it.
func measure(g globe.Globe, rise float64) (radius, q float64) {
	e := g.Bulge()
	u := float64(rise*e) / (1 - e)
	p := 1 + float64((u/16384)*(4096+float64(u*(float64(u*(320-float64(175*u)))-768))))
	q = float64((u / 1024) * (256 + float64(u*(float64(u*(74-float64(47*u)))-128))))
	return float64(float64(g.A*(1-g.F)) * p), q
}

// sway: by how many radians the arc is longer than its metres in the mean.
func (a arc) sway(q float64) float64 {
	threes := float64((float64(4*float64(a.sin*a.sin)) - 3) * (float64(4*float64(a.mid*a.mid)) - 3))
	rest := float64(a.cos*a.twice()) - float64(float64((q/6)*a.mid)*threes)
	return float64(float64(q*a.sin) * (a.mid + float64((q/4)*rest)))
}

// drift: by how many radians the ends are farther apart in longitude on the ball than on the globe.
func (a arc) drift(f float64) float64 {
	c := float64(float64((f/16)*a.rise) * (4 + float64(f*(4-float64(3*a.rise)))))
	rest := a.mid + float64(float64(c*a.cos)*a.twice())
	return float64(float64(float64((1-c)*f)*a.lean) * (a.long + float64(float64(c*a.sin)*rest)))
}

// twice: the cosine of twice the angle whose cosine mid is.
func (a arc) twice() float64 { return float64(2*float64(a.mid*a.mid)) - 1 }

// latitude of the arc's end on the globe; false: it is nowhere.
func (a arc) latitude(f float64, lat, course sides) (int, bool) {
	t := float64(lat.sin*a.sin) - float64(float64(lat.cos*a.cos)*course.cos)
	up := float64(lat.sin*a.cos) + float64(float64(lat.cos*a.sin)*course.cos)
	out := math.Sqrt(float64(a.lean*a.lean) + float64(t*t))
	angle, ok := grain.Angle(up, float64((1-f)*out))
	return grain.Signed(angle), ok
}

// eastward: by how many radians of longitude the arc goes on the ball.
func (a arc) eastward(lat, course sides) float64 {
	x := float64(lat.cos*a.cos) - float64(float64(lat.sin*a.sin)*course.cos)
	return radians(grain.Signed(angleOf(float64(a.sin*course.sin), x)))
}
