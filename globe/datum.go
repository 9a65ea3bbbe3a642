package globe

import "mercator/api"

// Datum: how one frame lies in another one.
type Datum struct{ X, Y, Z, A, B, C, Scale float64 }

// Valid datum?
func (d Datum) Valid() error {
	if !within(-1e5, 1e5, d.X, d.Y, d.Z) || !within(-0.001, 0.001, d.A, d.B, d.C) || !within(-1000, 1000, d.Scale) {
		return api.ErrShape
	}
	return nil
}

// To the other frame.
func (d Datum) To(v api.Vec) (api.Vec, error) {
	if err := d.takes(v); err != nil {
		return api.Vec{}, err
	}
	k := d.longer()
	return unsigned(api.Vec{
		X: d.X + float64(k*((v.X-float64(d.C*v.Y))+float64(d.B*v.Z))),
		Y: d.Y + float64(k*((float64(d.C*v.X)+v.Y)-float64(d.A*v.Z))),
		Z: d.Z + float64(k*((float64(d.A*v.Y)-float64(d.B*v.X))+v.Z)),
	}), nil
}

// From the other frame.
func (d Datum) From(v api.Vec) (api.Vec, error) {
	if err := d.takes(v); err != nil {
		return api.Vec{}, err
	}
	k := d.longer()
	w := api.Vec{X: (v.X - d.X) / k, Y: (v.Y - d.Y) / k, Z: (v.Z - d.Z) / k}
	aa, bb, cc := float64(d.A*d.A), float64(d.B*d.B), float64(d.C*d.C)
	ab, ac, bc := float64(d.A*d.B), float64(d.A*d.C), float64(d.B*d.C)
	n := ((1 + aa) + bb) + cc
	return unsigned(api.Vec{
		X: dot(api.Vec{X: 1 + aa, Y: d.C + ab, Z: ac - d.B}, w) / n,
		Y: dot(api.Vec{X: ab - d.C, Y: 1 + bb, Z: d.A + bc}, w) / n,
		Z: dot(api.Vec{X: ac + d.B, Y: bc - d.A, Z: 1 + cc}, w) / n,
	}), nil
}

// takes: can it turn the vector?
func (d Datum) takes(v api.Vec) error {
	if err := d.Valid(); err != nil {
		return err
	}
	if !within(-1e10, 1e10, v.X, v.Y, v.Z) {
		return api.ErrRange
	}
	return nil
}

// longer: how many times as long the other frame measures.
func (d Datum) longer() float64 { return 1 + float64(d.Scale*1e-6) }

func dot(a, b api.Vec) float64 {
	return (float64(a.X*b.X) + float64(a.Y*b.Y)) + float64(a.Z*b.Z)
}
