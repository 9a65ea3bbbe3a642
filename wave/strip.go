package wave

import (
	"math"

	"mercator/api"
	"mercator/flat"
	"mercator/globe"
	"mercator/grain"
)

const (
	degree   = api.Turn / 360
	farthest = 89 * degree // the latitude beyond which nothing is drawn
	widest   = 45 * degree // from the middle meridian, to either side
)

// Strip along a meridian.
type Strip struct {
	Globe globe.Globe
	Mid   int
	Scale float64
}

// cast of a place: where it lies on a ball on which the globe is laid so that shapes stay.
type cast struct {
	tan      float64 // the tangent of its latitude there
	sin, cos float64 // of how far east of the middle it is
	root     float64 // of the squares of tan and cos
	u        int     // how far it is along the middle meridian
	v        float64 // how far beside it, as the ball's own Mercator paper tells
}

// Valid strip?
func (s Strip) Valid() error {
	if err := s.Globe.Valid(); err != nil {
		return err
	}
	if !(s.Scale >= 0.1 && s.Scale <= 10) { // a NaN is not
		return api.ErrShape
	}
	return nil
}

// To paper.
func (s Strip) To(at api.Place) (api.Flat, error) {
	c, err := s.cast(at)
	if err != nil {
		return api.Flat{}, err
	}
	r, a, _ := s.series()
	z := ripple(complex(float64(float64(c.u)*api.Rad), c.v), c.u, c.v, a, Sine)
	return api.Flat{X: grain.Unsigned(float64(r * imag(z))), Y: grain.Unsigned(float64(r * real(z)))}, nil
}

// From paper.
func (s Strip) From(f api.Flat) (api.Place, error) {
	if err := s.Valid(); err != nil {
		return api.Place{}, err
	}
	r, _, b := s.series()
	if !within(f.X, r) || !within(f.Y, float64(1.6*r)) {
		return api.Place{}, api.ErrRange
	}
	for i := range b {
		b[i] = -b[i] // these waves are taken away
	}
	up, aside := f.Y/r, f.X/r
	z := ripple(complex(up, aside), grain.Nearest(up), aside, b, Sine)
	w := grain.Nearest(real(z))
	_, k := halves(imag(z))
	cos := grain.Cos(w)
	east, _ := grain.Angle(k, cos) // at the ball's pole itself there is none: 0
	iso := unroll(grain.Sin(w) / hypotenuse(k, cos))
	return api.Place{Lon: grain.Signed(grain.Norm(s.Mid) + east), Lat: flat.Lat(s.Globe, iso)}, nil
}

// Turned: how much longer things are on paper, and turned.
func (s Strip) Turned(at api.Place) (scale float64, turn int, err error) {
	c, err := s.cast(at)
	if err != nil {
		return 0, 0, err
	}
	r, a, _ := s.series()
	for i := range a {
		a[i] = float64(float64(2*(i+1)) * a[i])
	}
	z := ripple(1, c.u, c.v, a, Cosine)
	long := float64(r * hypotenuse(real(z), imag(z)))
	wide := float64(s.Globe.Cross(at.Lat) * grain.Cos(at.Lat))
	onBall, _ := grain.Angle(float64(c.tan*c.sin), float64(hypotenuse(1, c.tan)*c.cos))
	byWaves, _ := grain.Angle(imag(z), real(z))
	return long / float64(wide*c.root), grain.Signed(onBall - byWaves), nil
}

// cast of a place, if it can be drawn.
func (s Strip) cast(at api.Place) (cast, error) {
	if err := s.Valid(); err != nil {
		return cast{}, err
	}
	east := grain.Signed(grain.Norm(at.Lon) - grain.Norm(s.Mid))
	if at.Lat < -farthest || at.Lat > farthest || east < -widest || east > widest {
		return cast{}, api.ErrRange
	}
	_, tan := halves(flat.Iso(s.Globe, at.Lat))
	c := cast{tan: tan, sin: grain.Sin(east), cos: grain.Cos(east)}
	c.root = hypotenuse(c.tan, c.cos)
	u, _ := grain.Angle(c.tan, c.cos)
	c.u, c.v = grain.Signed(u), unroll(c.sin/c.root)
	return c, nil
}

// series of the strip: the radius at its scale, the waves to paper and those from it.
func (s Strip) series() (r float64, a, b [4]float64) {
	radius, a, b, _ := Series(s.Globe) // only asked for where the globe is valid
	return float64(radius * s.Scale), a, b
}

// within a bound, to both sides of 0? A NaN never is.
func within(x, bound float64) bool { return x >= -bound && x <= bound }

// unroll: the number of which a number is the hyperbolic sine.
func unroll(x float64) float64 {
	if x < 0 {
		return -unroll(-x) // without it, what is far below 0 would lose its digits
	}
	return grain.Ln(x + hypotenuse(x, 1))
}

// hypotenuse of a triangle, by its other sides.
func hypotenuse(x, y float64) float64 { return math.Sqrt(float64(x*x) + float64(y*y)) }
