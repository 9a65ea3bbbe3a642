package drain_test

import (
	"math"
	"reflect"
	"slices"
	"testing"

	"mercator/api"
	"mercator/drain"
)

// valley in which all goes to the south.
func valley() api.Raster {
	return raster(5,
		99, 99, 99, 99, 99,
		99, 50, 40, 50, 99,
		99, 45, 30, 45, 99,
		99, 40, 20, 40, 99,
		99, 99, 10, 99, 99)
}

// forks: two valleys of two brooks each meet ahead of the rim.
func forks() api.Raster {
	return raster(9,
		99, 99, 99, 99, 99, 99, 99, 99, 99,
		99, 61, 99, 62, 99, 63, 99, 64, 99,
		99, 99, 50, 99, 99, 99, 51, 99, 99,
		99, 99, 99, 40, 99, 41, 99, 99, 99,
		99, 99, 99, 99, 30, 99, 99, 99, 99,
		99, 99, 99, 99, 20, 99, 99, 99, 99,
		99, 99, 99, 99, 10, 99, 99, 99, 99)
}

// P124: worked out by hand: where streams meet, on the rim, and with more asked for than gathers.
func TestStreams(t *testing.T) {
	for _, c := range []struct {
		a     api.Raster
		least int
		want  [][]int
	}{
		{valley(), 1, [][]int{{0}, {1}, {2}, {3}, {4}, {5}, {6, 12}, {7, 12}, {8, 12}, {9}, {10}, {11, 17}, {12, 17}, {13, 17}, {14}, {15}, {16, 22}, {17, 22}, {18, 22}, {19}, {20}, {21}, {22}, {23}, {24}}},
		{valley(), 2, [][]int{{12, 17, 22}}},
		{valley(), 4, [][]int{{12, 17, 22}}},
		{valley(), 5, [][]int{{17, 22}}},
		{valley(), 7, [][]int{{17, 22}}},
		{valley(), 8, [][]int{{22}}},
		{valley(), 10, [][]int{{22}}},
		{valley(), 11, nil},
		{valley(), math.MaxInt, nil},
		{raster(1, 5), 1, [][]int{{0}}},
		{raster(1, 5), 2, nil},
		{raster(2, 4, 3, 2, 1), 1, [][]int{{0}, {1}, {2}, {3}}},
		// One that flows into a cell of the rim ends there, and none begins.
		{raster(3, 9, 9, 9, 9, 0, 9, 9, 9, 1), 1, [][]int{{0}, {1}, {2}, {3}, {4, 8}, {5}, {6}, {7}}},
		{raster(3, 9, 9, 9, 9, 0, 9, 9, 9, 1), 2, [][]int{{8}}},
	} {
		got, err := drain.Streams(c.a, c.least)
		if err != nil || len(got) != len(c.want) || len(got) > 0 && !reflect.DeepEqual(got, c.want) {
			t.Error(c.a, c.least, got, err, c.want)
		}
	}
}

// P124, P125: two of an order make the next one; one that is less adds nothing.
func TestForks(t *testing.T) {
	ranks, err := drain.Strahler(forks(), 1)
	if err != nil {
		t.Fatal(err)
	}
	for cell, want := range map[int]int{0: 1, 10: 1, 12: 1, 14: 1, 16: 1, 20: 2, 24: 2, 30: 2, 32: 2, 40: 3, 49: 3, 58: 3, 57: 1, 59: 1} {
		if ranks[cell] != want {
			t.Error(cell, ranks[cell], want)
		}
	}
}

// P125: worked out by hand.
func TestStrahler(t *testing.T) {
	for _, c := range []struct {
		a     api.Raster
		least int
		want  []int
	}{
		{valley(), 1, []int{1, 1, 1, 1, 1, 1, 1, 1, 1, 1, 1, 1, 2, 1, 1, 1, 1, 2, 1, 1, 1, 1, 2, 1, 1}},
		{valley(), 4, []int{0, 0, 0, 0, 0, 0, 0, 0, 0, 0, 0, 0, 1, 0, 0, 0, 0, 1, 0, 0, 0, 0, 1, 0, 0}},
		{valley(), 10, []int{0, 0, 0, 0, 0, 0, 0, 0, 0, 0, 0, 0, 0, 0, 0, 0, 0, 0, 0, 0, 0, 0, 1, 0, 0}},
		{valley(), 11, make([]int, 25)},
		{valley(), math.MaxInt, make([]int, 25)},
		{raster(1, 5), 1, []int{1}},
		{raster(3, 9, 9, 9, 9, 0, 9, 9, 9, 1), 1, []int{1, 1, 1, 1, 1, 1, 1, 1, 1}},
	} {
		if got, err := drain.Strahler(c.a, c.least); err != nil || !slices.Equal(got, c.want) {
			t.Error(c.a, c.least, got, err, c.want)
		}
	}
}

// P124, P125: so little is no stream.
func TestStreamsShape(t *testing.T) {
	for _, a := range samples(1250) {
		for _, least := range []int{0, -1, -len(a.L), math.MinInt} {
			if got, err := drain.Streams(a, least); err != api.ErrShape || len(got) > 0 {
				t.Error(a, least, got, err)
			}
			if got, err := drain.Strahler(a, least); err != api.ErrShape || len(got) > 0 {
				t.Error(a, least, got, err)
			}
		}
	}
}

// river: of each stream cell, which stream cells flow into it; nil: it is none.
func river(t *testing.T, a api.Raster, least int) map[int][]int {
	t.Helper()
	much, err := drain.Gather(a, slices.Repeat([]int{1}, len(a.L)))
	if err != nil {
		t.Fatal(a, err)
	}
	_, flow, _ := floodOf(a)
	out := map[int][]int{}
	for cell := range a.L {
		if much[cell] < least {
			continue
		}
		if out[cell] == nil {
			out[cell] = []int{}
		}
		if flow[cell] != api.Sink {
			next := beside(a, cell, flow[cell])
			out[next] = append(out[next], cell)
		}
	}
	return out
}

// P124: samples: each two stream cells of which one flows into the other stand in one reach, once; where reaches begin and end is as told.
func TestStreamsSamples(t *testing.T) {
	long := 0
	for _, a := range samples(125) {
		for _, least := range []int{1, 2, 3, 5, 9, len(a.L)} {
			cells := river(t, a, least)
			got, err := drain.Streams(a, least)
			if err != nil {
				t.Fatal(a, least, err)
			}
			begun, links := map[int]bool{}, map[[2]int]bool{}
			for n, reach := range got {
				long = max(long, len(reach))
				first, last := reach[0], reach[len(reach)-1]
				if n > 0 && first <= got[n-1][0] || cells[first] == nil || len(cells[first]) == 1 || !onRim(a, last) && len(cells[last]) < 2 {
					t.Error(a, least, reach)
				}
				begun[first] = true
				for i := 1; i < len(reach); i++ {
					link := [2]int{reach[i-1], reach[i]}
					if links[link] || !slices.Contains(cells[reach[i]], reach[i-1]) || i < len(reach)-1 && len(cells[reach[i]]) != 1 {
						t.Error(a, least, reach, link)
					}
					links[link] = true
				}
			}
			all := 0
			for cell, in := range cells {
				all += len(in)
				if begun[cell] != (len(in) != 1) {
					t.Error(a, least, cell)
				}
			}
			if all != len(links) {
				t.Error(a, least, all, len(links))
			}
		}
	}
	if long < 6 {
		t.Error("samples are too much alike", long)
	}
}

// rankOf a stream cell, from those that flow in.
func rankOf(cells map[int][]int, cell int) int {
	in := cells[cell]
	if len(in) == 0 {
		return 1
	}
	var ranks []int
	for _, other := range in {
		ranks = append(ranks, rankOf(cells, other))
	}
	slices.Sort(ranks)
	n := len(ranks) - 1
	if n > 0 && ranks[n-1] == ranks[n] {
		return ranks[n] + 1
	}
	return ranks[n]
}

// P125: samples.
func TestStrahlerSamples(t *testing.T) {
	most := 0
	for _, a := range samples(1251) {
		for _, least := range []int{1, 2, 4, 8, len(a.L)} {
			cells := river(t, a, least)
			got, err := drain.Strahler(a, least)
			if err != nil || len(got) != len(a.L) {
				t.Fatal(a, least, got, err)
			}
			for cell, rank := range got {
				want := 0
				if cells[cell] != nil {
					want = rankOf(cells, cell)
				}
				if rank != want {
					t.Error(a, least, cell, rank, want)
				}
				most = max(most, rank)
			}
		}
	}
	if most < 4 {
		t.Error("samples are too much alike", most)
	}
}

// P124, P125: the greatest raster.
func TestStreamsGreatest(t *testing.T) {
	a := flat(api.MaxSide, api.MaxSide, 0)
	l, err := drain.Streams(a, 1)
	if err != nil || len(l) == 0 {
		t.Fatal(len(l), err)
	}
	ranks, err := drain.Strahler(a, 1)
	if err != nil || slices.Min(ranks) != 1 {
		t.Fatal(err)
	}
}
