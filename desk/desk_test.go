package desk_test

import (
	"math"
	"math/rand"
	"slices"
	"strings"
	"sync"
	"testing"

	"mercator/api"
	"mercator/desk"
)

// raster of rows that are so wide.
func raster(wide int, l ...int) api.Raster {
	return api.Raster{Wide: wide, High: len(l) / wide, L: l}
}

// flat raster: one height.
func flat(wide, high, height int) api.Raster {
	return api.Raster{Wide: wide, High: high, L: slices.Repeat([]int{height}, wide*high)}
}

// sample: heights at most so great, in size.
func sample(r *rand.Rand, wide, high, size int) api.Raster {
	a := flat(wide, high, 0)
	for i := range a.L {
		a.L[i] = r.Intn(2*size+1) - size
	}
	return a
}

// same sizes and heights?
func same(a, b api.Raster) bool {
	return a.Wide == b.Wide && a.High == b.High && slices.Equal(a.L, b.L)
}

// edit, in short.
func edit(cell, high, time int, by string) desk.Edit {
	return desk.Edit{Cell: cell, High: high, Time: time, By: by}
}

// open desk, on which these are drawn.
func open(t *testing.T, a api.Raster, l ...desk.Edit) *desk.Desk {
	t.Helper()
	d, err := desk.New(a)
	if err != nil || d == nil {
		t.Fatal(a, err)
	}
	do(t, d, l...)
	return d
}

// do what can be done.
func do(t *testing.T, d *desk.Desk, l ...desk.Edit) {
	t.Helper()
	for _, e := range l {
		if err := d.Do(e); err != nil {
			t.Fatal(e, err)
		}
	}
}

// merge what can be merged.
func merge(t *testing.T, d *desk.Desk, l ...*desk.Desk) {
	t.Helper()
	for _, o := range l {
		if err := d.Merge(o); err != nil {
			t.Fatal(err)
		}
	}
}

// later of two edits of one cell, by the words of the chapter.
func later(e, o desk.Edit) bool {
	if e.Time != o.Time {
		return e.Time > o.Time
	}
	if e.By != o.By {
		return e.By > o.By
	}
	return e.High > o.High
}

// told: the edits as Edits tells them: each is put where it belongs, one by one.
func told(l []desk.Edit) []desk.Edit {
	var out []desk.Edit
	for _, e := range l {
		at := 0
		for at < len(out) && (out[at].Cell < e.Cell || out[at].Cell == e.Cell && later(e, out[at])) {
			at++
		}
		if at == len(out) || out[at] != e {
			out = slices.Insert(out, at, e)
		}
	}
	return out
}

// drawn: the raster with these edits.
func drawn(a api.Raster, l []desk.Edit) api.Raster {
	out := api.Raster{Wide: a.Wide, High: a.High, L: slices.Clone(a.L)}
	for cell := range out.L {
		var latest *desk.Edit
		for n, e := range l {
			if e.Cell == cell && (latest == nil || later(e, *latest)) {
				latest = &l[n]
			}
		}
		if latest != nil {
			out.L[cell] = latest.High
		}
	}
	return out
}

// holds: just these edits, on this raster?
func holds(t *testing.T, d *desk.Desk, a api.Raster, l []desk.Edit) {
	t.Helper()
	if got, want := d.Edits(), told(l); !slices.Equal(got, want) {
		t.Error(got, want)
	}
	if got, want := d.Raster(), drawn(a, l); !same(got, want) {
		t.Error(got, want)
	}
}

// some edits that are much alike, so that many are of one cell, of one time, or the same.
func some(r *rand.Rand, cells, many int) []desk.Edit {
	names := []string{"a", "ab", "b", "A", "\x00", "\xff", "é", strings.Repeat("z", 20)}
	var out []desk.Edit
	for range many {
		out = append(out, edit(r.Intn(cells), r.Intn(5)-2, r.Intn(4), names[r.Intn(len(names))]))
	}
	return out
}

// P160: which edit is the later one, worked out by hand.
func TestLatest(t *testing.T) {
	for _, l := range [][]desk.Edit{
		{edit(1, 9, 2, "z"), edit(1, 5, 3, "a")},
		{edit(1, 9, 0, "z"), edit(1, -5, math.MaxInt, "a")},
		{edit(1, 9, 3, "a"), edit(1, 5, 3, "b")},
		{edit(1, 9, 3, "a"), edit(1, 5, 3, "aa")},
		{edit(1, 9, 3, "B"), edit(1, 5, 3, "a")},
		{edit(1, 9, 3, "z"), edit(1, 5, 3, "é")},
		{edit(1, 9, 3, "\x7f"), edit(1, 5, 3, "\x80")},
		{edit(1, 9, 3, "a"), edit(1, 5, 3, "a\x00")},
		{edit(1, 5, 3, "a"), edit(1, 9, 3, "a")},
		{edit(1, -9, 3, "a"), edit(1, -5, 3, "a")},
		{edit(1, -api.MaxHigh, 0, "a"), edit(1, api.MaxHigh, 0, "a")},
	} {
		for _, d := range []*desk.Desk{open(t, raster(3, 7, 8, 6), l[0], l[1]), open(t, raster(3, 7, 8, 6), l[1], l[0], l[1], l[0])} {
			if got := d.Edits(); !slices.Equal(got, l) {
				t.Error(got, l)
			}
			if got := d.Raster(); !same(got, raster(3, 7, l[1].High, 6)) {
				t.Error(got, l)
			}
		}
	}
}

// P160: edits are told cell by cell, each once; a desk without one is as it was.
func TestEdits(t *testing.T) {
	d := open(t, raster(2, 1, 2, 3, 4))
	if got := d.Edits(); len(got) > 0 || !same(d.Raster(), raster(2, 1, 2, 3, 4)) {
		t.Error(got, d.Raster())
	}
	do(t, d, edit(3, 9, 0, "b"), edit(0, 7, 9, "a"), edit(3, 9, 0, "b"), edit(3, 8, 0, "b"), edit(0, 7, 8, "z"), edit(2, 3, 1, "a"))
	want := []desk.Edit{edit(0, 7, 8, "z"), edit(0, 7, 9, "a"), edit(2, 3, 1, "a"), edit(3, 8, 0, "b"), edit(3, 9, 0, "b")}
	if got := d.Edits(); !slices.Equal(got, want) || !same(d.Raster(), raster(2, 7, 2, 3, 9)) {
		t.Error(got, d.Raster())
	}
}

// P160: samples, in whatever order edits come.
func TestEditsSamples(t *testing.T) {
	r := rand.New(rand.NewSource(160))
	for range 300 {
		a := sample(r, 1+r.Intn(4), 1+r.Intn(4), 3)
		l := some(r, len(a.L), r.Intn(60))
		holds(t, open(t, a, l...), a, l)
		r.Shuffle(len(l), func(i, j int) { l[i], l[j] = l[j], l[i] })
		holds(t, open(t, a, l...), a, l)
	}
}

// P160: what cannot be done, in the order in which it is told; nothing has changed then. The bounds themselves are right.
func TestWrongEdits(t *testing.T) {
	a := raster(3, 1, 2, 3, 4, 5, 6)
	d := open(t, a, edit(0, 5, 0, "a"))
	long := strings.Repeat("x", 21)
	for _, by := range []string{"a", "", long, strings.Repeat("é", 11), strings.Repeat("x", 300)} {
		for _, e := range []desk.Edit{
			edit(-1, 0, 0, by), edit(6, 0, 0, by), edit(math.MaxInt, 0, 0, by), edit(math.MinInt, 0, 0, by),
			edit(0, api.MaxHigh+1, 0, by), edit(0, -api.MaxHigh-1, 0, by), edit(0, math.MaxInt, 0, by), edit(0, math.MinInt, 0, by),
			edit(0, 0, -1, by), edit(0, 0, math.MinInt, by), edit(-1, math.MinInt, -1, by),
		} {
			if err := d.Do(e); err != api.ErrRange {
				t.Error(e, err)
			}
		}
		if by == "a" {
			continue
		}
		if err := d.Do(edit(1, 2, 3, by)); err != api.ErrName {
			t.Error(by, err)
		}
	}
	holds(t, d, a, []desk.Edit{edit(0, 5, 0, "a")})
	right := []desk.Edit{edit(0, 5, 0, "a"), edit(5, 0, 0, long[1:]), edit(0, api.MaxHigh, math.MaxInt, " "), edit(0, -api.MaxHigh, 0, "\n\x00\xff"), edit(1, 0, 0, strings.Repeat("é", 10))}
	do(t, d, right...)
	holds(t, d, a, right)
}

// full desk: MaxEdits edits of the first cells, some of each.
func full(t *testing.T, a api.Raster) (*desk.Desk, []desk.Edit) {
	t.Helper()
	var l []desk.Edit
	for n := range api.MaxEdits {
		l = append(l, edit(n%len(a.L), n%7, n/9, "m"+string(rune('a'+n%26))))
	}
	return open(t, a, l...), l
}

// P160: no more than MaxEdits edits; one that is there is none more; what is wrong otherwise is told ahead.
func TestFullDesk(t *testing.T) {
	a := raster(4, 1, 2, 3, 4)
	d, l := full(t, a)
	if got := d.Edits(); len(got) != api.MaxEdits {
		t.Fatal(len(got))
	}
	for _, e := range []desk.Edit{edit(0, 0, 1000, "a"), edit(3, 9, 0, "a"), edit(0, api.MaxHigh, math.MaxInt, strings.Repeat("z", 20))} {
		if err := d.Do(e); err != api.ErrBound {
			t.Error(e, err)
		}
	}
	if err := d.Do(edit(4, 0, 0, "a")); err != api.ErrRange {
		t.Error(err)
	}
	if err := d.Do(edit(0, 0, 0, "")); err != api.ErrName {
		t.Error(err)
	}
	do(t, d, l...)
	holds(t, d, a, l)
}

// wrongRaster and the error that is told of it.
type wrongRaster struct {
	a   api.Raster
	err error
}

// wrongRasters: what no raster is.
func wrongRasters() []wrongRaster {
	return []wrongRaster{
		{api.Raster{Wide: api.MaxSide + 1, High: 1, L: make([]int, api.MaxSide+1)}, api.ErrBound},
		{api.Raster{Wide: 1, High: api.MaxSide + 1, L: make([]int, api.MaxSide+1)}, api.ErrBound},
		{api.Raster{Wide: math.MaxInt, High: math.MaxInt, L: []int{1}}, api.ErrBound},
		{api.Raster{}, api.ErrShape},
		{api.Raster{Wide: 1, High: 1}, api.ErrShape},
		{api.Raster{Wide: math.MinInt, High: math.MinInt}, api.ErrShape},
		{api.Raster{Wide: 2, High: 2, L: make([]int, 5)}, api.ErrShape},
		{raster(2, 1, api.MaxHigh+1), api.ErrRange},
		{raster(2, 1, -api.MaxHigh-1), api.ErrRange},
		{raster(2, 1, math.MinInt), api.ErrRange},
	}
}

// P160, P162: what is no raster is on no desk.
func TestWrongRasters(t *testing.T) {
	log := open(t, raster(1, 1), edit(0, 1, 1, "a")).Log()
	for _, c := range wrongRasters() {
		if d, err := desk.New(c.a); d != nil || err != c.err {
			t.Error(c, d != nil, err)
		}
		for _, b := range [][]byte{nil, log} {
			if d, n, err := desk.Open(c.a, b); d != nil || n != 0 || err != c.err {
				t.Error(c, d != nil, n, err)
			}
		}
	}
}

// P1: a desk that New answers beside an error, and one that nobody made: nothing is on them.
func TestNoDesk(t *testing.T) {
	none, _ := desk.New(api.Raster{})
	right := open(t, raster(1, 1), edit(0, 2, 1, "a"))
	for _, d := range []*desk.Desk{none, {}} {
		if err := d.Do(edit(0, 0, 0, "a")); err != api.ErrRange {
			t.Error(err)
		}
		if err := right.Merge(d); err != api.ErrShape {
			t.Error(err)
		}
		if err := d.Merge(right); err != api.ErrShape {
			t.Error(err)
		}
		if err := d.Merge(nil); err != api.ErrShape {
			t.Error(err)
		}
		if wide, high := d.Tiles(); wide != 0 || high != 0 {
			t.Error(wide, high)
		}
		if b, err := d.Tile(0, 0); len(b) > 0 || err != api.ErrRange {
			t.Error(b, err)
		}
		if l, err := d.All(3); len(l) > 0 || err != nil {
			t.Error(l, err)
		}
		if !same(d.Raster(), api.Raster{}) || len(d.Edits()) > 0 || len(d.Log()) > 0 || d.Made() != 0 {
			t.Error(d.Raster(), d.Edits(), d.Log())
		}
	}
	holds(t, right, raster(1, 1), []desk.Edit{edit(0, 2, 1, "a")})
}

// P3, P4: what New is given is its caller's own again, nothing behind its length is read or written, and what is answered is new each time.
func TestMemory(t *testing.T) {
	memory := []int{3, 1, 4, 1, math.MaxInt, math.MinInt}
	d := open(t, api.Raster{Wide: 2, High: 2, L: memory[:4]}, edit(1, 8, 1, "a"))
	if !slices.Equal(memory, []int{3, 1, 4, 1, math.MaxInt, math.MinInt}) {
		t.Error(memory)
	}
	clear(memory)
	for range 2 {
		a, l, b := d.Raster(), d.Edits(), d.Log()
		if !same(a, raster(2, 3, 8, 4, 1)) || !slices.Equal(l, []desk.Edit{edit(1, 8, 1, "a")}) || len(b) != 27 || b[0] != 1 {
			t.Error(a, l, b)
		}
		clear(a.L)
		clear(l)
		clear(b)
	}
	if err := d.Merge(open(t, raster(2, 3, 1, 4, 1))); err != nil {
		t.Error(err)
	}
	if err := d.Merge(open(t, raster(2, 3, 8, 4, 1))); err != api.ErrShape {
		t.Error(err)
	}
}

// P161: all edits of both, and nothing of it on the other one.
func TestMerge(t *testing.T) {
	a := raster(3, 7, 8, 9)
	one := []desk.Edit{edit(0, 1, 1, "a"), edit(1, 2, 2, "a"), edit(2, 4, 4, "c")}
	two := []desk.Edit{edit(0, 3, 1, "b"), edit(1, 2, 2, "a"), edit(1, 9, 1, "b"), edit(2, 5, 3, "d")}
	x, y := open(t, a, one...), open(t, a, two...)
	merge(t, x, y)
	holds(t, x, a, append(slices.Clone(one), two...))
	holds(t, y, a, two)
	if got := x.Raster(); !same(got, raster(3, 3, 2, 4)) {
		t.Error(got)
	}
	merge(t, y, x)
	merge(t, x, x, y, x)
	holds(t, x, a, y.Edits())
	do(t, y, edit(2, 0, 9, "y"))
	if len(x.Edits()) != 6 || len(y.Edits()) != 7 {
		t.Error(x.Edits(), y.Edits())
	}
}

// P161: samples: in whatever order desks are merged, however often: all are the same.
func TestMergeSamples(t *testing.T) {
	r := rand.New(rand.NewSource(161))
	for range 100 {
		a := sample(r, 1+r.Intn(3), 1+r.Intn(3), 3)
		var all []desk.Edit
		desks := make([]*desk.Desk, 1+r.Intn(4))
		for n := range desks {
			l := some(r, len(a.L), r.Intn(20))
			desks[n] = open(t, a, l...)
			all = append(all, l...)
		}
		for range r.Intn(6) {
			merge(t, desks[r.Intn(len(desks))], desks[r.Intn(len(desks))])
		}
		for n := range desks {
			for _, other := range r.Perm(len(desks)) {
				merge(t, desks[n], desks[other])
			}
			holds(t, desks[n], a, all)
		}
	}
}

// P161: desks of other rasters, whatever is drawn on them; nothing has changed then.
func TestWrongMerge(t *testing.T) {
	a := raster(2, 7, 8, 7, 8)
	l := []desk.Edit{edit(0, 1, 1, "a")}
	d := open(t, a, l...)
	twin := open(t, raster(2, 1, 8, 7, 8)) // it is as d is now
	for _, o := range []*desk.Desk{nil, {}, twin, open(t, raster(2, 7, 8, 7, 9), l...), open(t, raster(1, 7, 8, 7, 8)), open(t, raster(4, 7, 8, 7, 8)), open(t, raster(2, 7, 8)), open(t, raster(2, 7, 8, 7, 8, 7, 8)), open(t, raster(2, 7, 8, 7, 9), edit(3, 8, 1, "a"))} {
		if err := d.Merge(o); err != api.ErrShape {
			t.Error(err)
		}
	}
	holds(t, d, a, l)
	merge(t, d, open(t, a, edit(0, 9, 9, "z")))
}

// P161: as many edits as there may be, and one more; another raster is told ahead.
func TestMergeBound(t *testing.T) {
	a := raster(4, 1, 2, 3, 4)
	whole, l := full(t, a)
	most, rest := open(t, a, l[:api.MaxEdits-3]...), open(t, a, l[api.MaxEdits-10:]...)
	other := open(t, a, append(l[:50:50], edit(0, 1, 1000, "o"), edit(1, 1, 1000, "o"), edit(2, 1, 1000, "o"), edit(3, 1, 1000, "o"))...)
	log := string(most.Log())
	for _, d := range []*desk.Desk{most, whole} {
		before := d.Edits()
		if err := d.Merge(other); err != api.ErrBound || !slices.Equal(d.Edits(), before) {
			t.Error(err)
		}
	}
	if string(most.Log()) != log {
		t.Error("the log of a merge that was none")
	}
	if another, _ := full(t, raster(4, 1, 2, 3, 5)); whole.Merge(another) != api.ErrShape {
		t.Error("another raster")
	}
	merge(t, most, rest, whole)
	merge(t, whole, most, rest, whole)
	holds(t, most, a, l)
	holds(t, whole, a, l)
}

// P1, P2: many draw, merge and look at once, on desks that are merged into each other: it ends, and what is there does not hang on who comes first.
func TestManyAtOnce(t *testing.T) {
	r := rand.New(rand.NewSource(162))
	a := sample(r, 33, 20, 9)
	desks := []*desk.Desk{open(t, a), open(t, a), open(t, a)}
	l := some(r, len(a.L), 600)
	var busy sync.WaitGroup
	for n := range 12 {
		busy.Add(1)
		go func() {
			defer busy.Done()
			for i := n; i < len(l); i += 12 {
				d, o := desks[i%3], desks[i/3%3]
				if d.Do(l[i]) != nil || d.Merge(o) != nil {
					t.Error(l[i])
				}
				if b, err := o.All(1 + i%4); err != nil || len(b) != 6 {
					t.Error(len(b), err)
				}
				_, _, _, _ = d.Raster(), o.Edits(), d.Log(), o.Made()
			}
		}()
	}
	busy.Wait()
	for _, d := range desks {
		merge(t, d, desks...)
		holds(t, d, a, l)
	}
}
