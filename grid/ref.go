package grid

import (
	"math"
	"strconv"
	"strings"

	"mercator/api"
	"mercator/globe"
	"mercator/wave"
)

const (
	mostEast  = 999999
	mostNorth = 9999999

	aside = 500000   // East of the middle meridian, so that what lies west of it is not below 0
	under = 10000000 // North of the equator, of what lies south of it, for the same reason

	lowest  = -80 * degree
	highest = 84 * degree

	eastDigits  = 6
	northDigits = 7
)

// pattern of a reference's text: 0 is any digit, N is N or S, a blank is itself.
const pattern = "00N 000000 0000000"

// Ref: a reference.
type Ref struct {
	Zone        int
	South       bool
	East, North int
}

// Valid reference?
func (r Ref) Valid() error {
	if r.Zone < 1 || r.Zone > zones || r.East < 0 || r.East > mostEast || r.North < 0 || r.North > mostNorth {
		return api.ErrRange
	}
	return nil
}

// Text of a reference.
func (r Ref) Text() (string, error) {
	if err := r.Valid(); err != nil {
		return "", err
	}
	half := "N"
	if r.South {
		half = "S"
	}
	return padded(r.Zone, 2) + half + " " + padded(r.East, eastDigits) + " " + padded(r.North, northDigits), nil
}

// ReadRef: a reference of a text.
func ReadRef(text string) (Ref, error) {
	if at := wrongByte(text); at >= 0 {
		return Ref{}, &api.Fault{At: at, Err: api.ErrText}
	}
	const east, north = 4, 11 // where they begin
	r := Ref{Zone: number(text[:2]), South: text[2] == 'S', East: number(text[east : east+eastDigits]), North: number(text[north:])}
	if err := r.Valid(); err != nil { // only the zone can be wrong: the others have no digit too many
		return Ref{}, &api.Fault{Err: err}
	}
	return r, nil
}

// RefOf a place.
func RefOf(p api.Place) (Ref, error) {
	if p.Lat < lowest || p.Lat > highest {
		return Ref{}, api.ErrRange
	}
	r := Ref{Zone: Zone(p.Lon), South: p.Lat < 0}
	s, err := r.strip()
	if err != nil {
		return Ref{}, err
	}
	f, err := s.To(p)
	if err != nil {
		return Ref{}, err
	}
	r.East = nearest(f.X + aside)
	r.North = nearest(f.Y + r.equator())
	if err := r.Valid(); err != nil {
		return Ref{}, err
	}
	return r, nil
}

// Place of a reference.
func (r Ref) Place() (api.Place, error) {
	if err := r.Valid(); err != nil {
		return api.Place{}, err
	}
	s, err := r.strip()
	if err != nil {
		return api.Place{}, err
	}
	return s.From(api.Flat{X: float64(r.East) - aside, Y: float64(r.North) - r.equator()})
}

// strip of paper on which the reference's zone is drawn.
func (r Ref) strip() (wave.Strip, error) {
	mid, err := Middle(r.Zone)
	if err != nil {
		return wave.Strip{}, err
	}
	g, err := globe.Known("wgs84")
	if err != nil {
		return wave.Strip{}, err
	}
	return wave.Strip{Globe: g, Mid: mid, Scale: 0.9996}, nil
}

// equator: its North on the reference's side.
func (r Ref) equator() float64 {
	if r.South {
		return under
	}
	return 0
}

// nearest whole number, from the middle to the even one.
func nearest(x float64) int { return int(math.RoundToEven(x)) }

// wrongByte: the first one that cannot stand there, or the length of a text that ends too early; -1: it is written as a reference is.
func wrongByte(text string) int {
	for at := range len(pattern) {
		if at == len(text) || !stands(text[at], pattern[at]) {
			return at
		}
	}
	if len(text) > len(pattern) {
		return len(pattern)
	}
	return -1
}

// stands: can the byte stand where the pattern has that one?
func stands(b, there byte) bool {
	switch there {
	case '0':
		return b >= '0' && b <= '9'
	case 'N':
		return b == 'N' || b == 'S'
	}
	return b == there
}

// number of a few digits.
func number(digits string) int {
	n, _ := strconv.Atoi(digits) // only asked for where all of them are digits
	return n
}

// padded: a number that is not below 0, with zeros ahead.
func padded(n, digits int) string {
	text := strconv.Itoa(n)
	return strings.Repeat("0", max(0, digits-len(text))) + text
}
