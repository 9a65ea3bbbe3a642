package desk

import (
	"bytes"

	"mercator/api"
)

const (
	word = 8          // bytes of a number
	head = 3*word + 1 // bytes of an entry ahead of By
)

// Log of what was added.
func (d *Desk) Log() []byte {
	d, done := d.taken()
	defer done()
	var out []byte
	sum := byte(0)
	for _, e := range d.added() {
		out = append(out, entry(e, sum)...)
		sum = out[len(out)-1]
	}
	return out
}

// Open a log.
func Open(a api.Raster, log []byte) (*Desk, int, error) {
	d, err := New(a)
	if err != nil {
		return nil, 0, err
	}
	many, sum := 0, byte(0)
	for len(log) > head {
		e, ok := firstEdit(log)
		if !ok {
			break
		}
		whole := entry(e, sum)
		if !bytes.HasPrefix(log, whole) || d.Do(e) != nil {
			break
		}
		many, sum, log = many+1, whole[len(whole)-1], log[len(whole):]
	}
	return d, many, nil
}

// entry of a log, behind one with that sum.
func entry(e Edit, sum byte) []byte {
	out := make([]byte, 0, head+len(e.By)+1)
	for _, n := range [3]int{e.Cell, e.High, e.Time} {
		for shift := range word {
			out = append(out, byte(n>>(8*shift)))
		}
	}
	out = append(out, byte(len(e.By)))
	out = append(out, e.By...)
	for _, b := range out {
		sum = sum*31 + b + 7 // it wraps round
	}
	return append(out, sum)
}

// firstEdit of a log that has a head; its sum is not looked at. False: some of it lacks.
func firstEdit(log []byte) (Edit, bool) {
	end := head + int(log[head-1])
	if end >= len(log) {
		return Edit{}, false
	}
	return Edit{Cell: number(log), High: number(log[word:]), Time: number(log[2*word:]), By: string(log[head:end])}, true
}

// number that bytes begin with.
func number(b []byte) int {
	n := uint64(0)
	for shift := range word {
		n |= uint64(b[shift]) << (8 * shift)
	}
	return int(n)
}
