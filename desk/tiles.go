package desk

import (
	"slices"
	"sync"

	"mercator/api"
	"mercator/field"
)

const side = 16 // cells of a square

// sheet: a tile that was told, and the heights of which it was made.
type sheet struct {
	heights []int
	tile    []byte
}

// shelf of what was told of each square last.
type shelf struct {
	lock sync.Mutex // the workers of one call come side by side
	told []sheet
	made int
}

// Tiles: how many there are.
func (d *Desk) Tiles() (wide, high int) {
	d, done := d.taken()
	defer done()
	return squares(d.base.Wide), squares(d.base.High)
}

// Tile of a column and a row.
func (d *Desk) Tile(col, row int) ([]byte, error) {
	wide, high := d.Tiles()
	if !within(col, 0, wide-1) || !within(row, 0, high-1) {
		return nil, api.ErrRange
	}
	d, done := d.taken()
	defer done()
	n := row*wide + col
	return d.shelf.tile(n, part(d.now(), n)), nil
}

// All tiles, side by side.
func (d *Desk) All(workers int) ([][]byte, error) {
	if !within(workers, 1, api.Workers) {
		return nil, api.ErrShape
	}
	d, done := d.taken()
	defer done()
	now := d.now()
	out := make([][]byte, len(d.shelf.told))
	var busy sync.WaitGroup
	for first := range workers {
		busy.Add(1)
		go func() {
			defer busy.Done()
			for n := first; n < len(out); n += workers { // so each tile is one worker's alone, and made once
				out[n] = d.shelf.tile(n, part(now, n))
			}
		}()
	}
	busy.Wait()
	return out, nil
}

// Made: how many tiles were made.
func (d *Desk) Made() int {
	d, done := d.taken()
	defer done()
	return d.shelf.counted()
}

// tile of a square, of which this is the part now.
func (s *shelf) tile(n int, now api.Raster) []byte {
	if tile := s.found(n, now.L); tile != nil {
		return tile
	}
	tile, _ := field.Tile(now) // a part of a valid raster is valid
	s.put(n, sheet{now.L, slices.Clone(tile)})
	return tile
}

// found: the tile that was told of just these heights; nil: it is to be made.
func (s *shelf) found(n int, heights []int) []byte {
	s.lock.Lock()
	defer s.lock.Unlock()
	if !slices.Equal(s.told[n].heights, heights) {
		return nil
	}
	return slices.Clone(s.told[n].tile)
}

// put a tile there that was made.
func (s *shelf) put(n int, made sheet) {
	s.lock.Lock()
	defer s.lock.Unlock()
	s.told[n] = made
	s.made++
}

// counted: how many were made; from now on they are counted anew.
func (s *shelf) counted() int {
	s.lock.Lock()
	defer s.lock.Unlock()
	made := s.made
	s.made = 0
	return made
}

// squares along a side of a raster.
func squares(cells int) int { return (cells + side - 1) / side }

// part of a raster that a tile has: a square, and one row and column more.
func part(a api.Raster, n int) api.Raster {
	wide := squares(a.Wide)
	west, north := n%wide*side, n/wide*side
	east, south := min(west+side+1, a.Wide), min(north+side+1, a.High)
	out := api.Raster{Wide: east - west, High: south - north}
	for row := north; row < south; row++ {
		out.L = append(out.L, a.L[row*a.Wide+west:row*a.Wide+east]...)
	}
	return out
}
