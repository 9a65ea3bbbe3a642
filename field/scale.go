package field

import "mercator/api"

// Coarse: blocks.
func Coarse(a api.Raster, by int) (api.Raster, error) {
	if err := scaled(a, by); err != nil {
		return api.Raster{}, err
	}
	s, out := sumsOf(a), blank((a.Wide+by-1)/by, (a.High+by-1)/by)
	for cell := range out.L {
		top, left := cell/out.Wide*by, cell%out.Wide*by
		out.L[cell] = s.mean(block{top, min(top+by, a.High), left, min(left+by, a.Wide)})
	}
	return out, nil
}

// Fine: each cell by cells.
func Fine(a api.Raster, by int) (api.Raster, error) {
	if err := scaled(a, by); err != nil {
		return api.Raster{}, err
	}
	if a.Wide*by > api.MaxSide || a.High*by > api.MaxSide {
		return api.Raster{}, api.ErrBound
	}
	out := blank(a.Wide*by, a.High*by)
	for cell := range out.L {
		row, col := cell/out.Wide/by, cell%out.Wide/by
		out.L[cell] = a.L[row*a.Wide+col]
	}
	return out, nil
}

// scaled: is the raster valid, and can it be scaled by so much?
func scaled(a api.Raster, by int) error {
	if err := Valid(a); err != nil {
		return err
	}
	if !side(by) {
		return api.ErrShape
	}
	return nil
}
