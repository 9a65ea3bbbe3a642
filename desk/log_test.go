package desk_test

import (
	"bytes"
	"encoding/binary"
	"math"
	"math/rand"
	"slices"
	"strings"
	"testing"

	"mercator/api"
	"mercator/desk"
)

// logged: a log of edits, by the library's numbers of the same form.
func logged(l ...desk.Edit) []byte {
	var out []byte
	sum := 0
	for _, e := range l {
		var b []byte
		for _, n := range []int{e.Cell, e.High, e.Time} {
			b = binary.LittleEndian.AppendUint64(b, uint64(n))
		}
		b = append(append(b, byte(len(e.By))), e.By...)
		for _, c := range b {
			sum = (sum*31 + int(c) + 7) % 256
		}
		out = append(append(out, b...), byte(sum))
	}
	return out
}

// opened: so many edits of a log, and a desk with just these.
func opened(t *testing.T, a api.Raster, log []byte, many int, l ...desk.Edit) {
	t.Helper()
	before := slices.Clone(log)
	d, n, err := desk.Open(a, log)
	if err != nil || n != many || d == nil {
		t.Fatal(n, many, err)
	}
	if !bytes.Equal(log, before) {
		t.Error("the log was written into")
	}
	holds(t, d, a, l)
}

// P162: bytes that were worked out by hand.
func TestLog(t *testing.T) {
	d := open(t, flat(40, 10, 0))
	if got := d.Log(); len(got) > 0 {
		t.Error(got)
	}
	do(t, d, edit(0, 0, 0, "\x00"))
	want := []byte{0, 0, 0, 0, 0, 0, 0, 0, 0, 0, 0, 0, 0, 0, 0, 0, 0, 0, 0, 0, 0, 0, 0, 0, 1, 0, 127}
	if got := d.Log(); !bytes.Equal(got, want) {
		t.Error(got)
	}
	do(t, d, edit(300, -2, 1<<40+5, "bo"), edit(0, 0, 0, "\x00"))
	want = append(want, 44, 1, 0, 0, 0, 0, 0, 0, 254, 255, 255, 255, 255, 255, 255, 255, 5, 0, 0, 0, 0, 1, 0, 0, 2, 98, 111, 5)
	if got := d.Log(); !bytes.Equal(got, want) {
		t.Error(got)
	}
}

// P162: what was added, in that order: of a merge as Edits tells it, without what was there; what could not be done is not there.
func TestLogOrder(t *testing.T) {
	a := raster(3, 7, 8, 9)
	l := []desk.Edit{edit(2, 1, 5, "a"), edit(0, 4, 9, "b"), edit(0, 3, 1, "c")}
	d := open(t, a, l...)
	o := open(t, a, edit(2, 1, 6, "x"), edit(2, 1, 5, "a"), edit(1, 0, 0, "x"), edit(2, 0, 5, "a"), edit(0, 4, 9, "b"))
	do(t, d, l[1])
	if d.Do(edit(3, 0, 0, "a")) == nil || d.Do(edit(0, 0, 0, "")) == nil || d.Merge(nil) == nil {
		t.Error("no errors")
	}
	merge(t, d, o, d, o)
	do(t, d, edit(0, 0, 0, "z"))
	want := append(l, edit(1, 0, 0, "x"), edit(2, 0, 5, "a"), edit(2, 1, 6, "x"), edit(0, 0, 0, "z"))
	if got := d.Log(); !bytes.Equal(got, logged(want...)) {
		t.Error(got)
	}
}

// P162: samples: a log of what was done, one by one and by merges, is opened to what it was made of, and tells itself again.
func TestLogSamples(t *testing.T) {
	r := rand.New(rand.NewSource(163))
	for range 200 {
		a := sample(r, 1+r.Intn(4), 1+r.Intn(4), 3)
		d := open(t, a)
		var want []desk.Edit
		add := func(l ...desk.Edit) {
			for _, e := range l {
				if !slices.Contains(want, e) {
					want = append(want, e)
				}
			}
		}
		for range r.Intn(4) {
			l := some(r, len(a.L), r.Intn(15))
			if r.Intn(2) == 0 {
				do(t, d, l...)
				add(l...)
			} else {
				merge(t, d, open(t, a, l...))
				add(told(l)...)
			}
		}
		log := d.Log()
		if !bytes.Equal(log, logged(want...)) {
			t.Fatal(log, want)
		}
		o, n, err := desk.Open(a, log)
		if err != nil || n != len(want) || !bytes.Equal(o.Log(), log) {
			t.Fatal(n, err, want)
		}
		holds(t, o, a, want)
	}
}

// P162: a log that ends anywhere: whole edits alone are read, and nothing behind its length.
func TestCutLog(t *testing.T) {
	a := raster(2, 7, 8)
	l := []desk.Edit{edit(1, -2, 3, "bo"), edit(0, 5, 1, "a"), edit(1, api.MaxHigh, math.MaxInt, strings.Repeat("z", 20)), edit(0, -api.MaxHigh, 0, "\x00")}
	log := logged(l...)
	many := 0
	for cut := range len(log) + 1 {
		if many < len(l) && cut == len(logged(l[:many+1]...)) {
			many++
		}
		opened(t, a, log[:cut], many, l[:many]...)
	}
	if many != len(l) {
		t.Error(many)
	}
	opened(t, a, append(slices.Clone(log), 0), len(l), l...)
	opened(t, a, append(slices.Clone(log), log...), len(l), l...) // the sum of a first entry is wrong behind another one
	opened(t, a, make([]byte, 1000), 0)
	opened(t, a, bytes.Repeat([]byte{255}, 1000), 0)
}

// P162: a log of which one byte is another: what is ahead of that edit is read, and no more.
func TestChangedLog(t *testing.T) {
	a := raster(2, 7, 8)
	l := []desk.Edit{edit(1, -2, 3, "bo"), edit(0, 5, 1, "a"), edit(1, 6, 258, "cde")}
	log := logged(l...)
	many := 0
	for at := range log {
		if at == len(logged(l[:many+1]...)) {
			many++
		}
		for by := 1; by < 256; by++ {
			b := slices.Clone(log)
			b[at] += byte(by)
			opened(t, a, b, many, l[:many]...)
		}
	}
}

// P162: edits with right sums that cannot be done: none behind them is read.
func TestLogOfWrongEdits(t *testing.T) {
	a := raster(2, 7, 8)
	x, y := edit(1, 3, 3, "x"), edit(0, 4, 4, "y")
	for _, e := range []desk.Edit{
		edit(2, 0, 0, "a"), edit(-1, 0, 0, "a"), edit(math.MinInt, 0, 0, "a"), edit(math.MaxInt, 0, 0, "a"), edit(1<<32, 0, 0, "a"),
		edit(0, api.MaxHigh+1, 0, "a"), edit(0, -api.MaxHigh-1, 0, "a"), edit(0, math.MinInt, 0, "a"), edit(0, 1<<32, 0, "a"),
		edit(0, 0, -1, "a"), edit(0, 0, math.MinInt, "a"),
		edit(0, 0, 0, ""), edit(0, 0, 0, strings.Repeat("z", 21)), edit(0, 0, 0, strings.Repeat("z", 255)),
	} {
		opened(t, a, logged(e, x, y), 0)
		opened(t, a, logged(x, e, y), 1, x)
		opened(t, a, logged(x, y, e), 2, x, y)
	}
}

// P162: an edit that is there can be done again: it is one of the log's, but no more on the desk.
func TestLogWithTwins(t *testing.T) {
	a := raster(2, 7, 8)
	x, y := edit(1, 3, 3, "x"), edit(0, 4, 4, "y")
	opened(t, a, logged(x, x, y, x), 4, x, y)
	d, _, err := desk.Open(a, logged(x, x, y, x))
	if err != nil || !bytes.Equal(d.Log(), logged(x, y)) {
		t.Error(d.Log(), err)
	}
}

// P162: a log with as many edits as there may be, and with one more.
func TestFullLog(t *testing.T) {
	a := raster(4, 1, 2, 3, 4)
	d, l := full(t, a)
	if !bytes.Equal(d.Log(), logged(l...)) {
		t.Error("Log")
	}
	opened(t, a, d.Log(), api.MaxEdits, l...)
	more := edit(0, 1, 1000, "o")
	opened(t, a, logged(append(slices.Clone(l), l[7], more, l[8])...), api.MaxEdits+1, l...)
}
