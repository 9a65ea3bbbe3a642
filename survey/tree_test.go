package survey_test

import (
	"slices"
	"testing"

	"mercator/survey"
)

// P73: rows that were worked out by hand.
func TestLoops(t *testing.T) {
	for _, c := range []struct {
		s     survey.Survey
		loops [][]int
		ups   []int
	}{
		{survey.Survey{Marks: 1}, nil, nil},
		{survey.Survey{Marks: 3, Seen: []survey.Seen{seen(2, 1, 5, 1), seen(1, 0, 6, 1)}}, nil, nil},
		{triangle(), [][]int{{2, 3, 1}}, []int{3}},
		// Two ways between the same marks: the first is of the tree.
		{survey.Survey{Marks: 2, Seen: []survey.Seen{seen(0, 1, 5, 1), seen(0, 1, 7, 9), seen(1, 0, -4, 1)}}, [][]int{{2, -1}, {3, 1}}, []int{2, 1}},
		{survey.Survey{Marks: 2, Seen: []survey.Seen{seen(1, 0, 5, 1), seen(0, 1, 7, 9), seen(1, 0, -4, 1)}}, [][]int{{2, 1}, {3, -1}}, []int{12, -9}},
		// Reached in breadth: 3 from 1, though 2 leads there by one that was seen earlier.
		{survey.Survey{Marks: 4, Seen: []survey.Seen{seen(2, 3, 1, 1), seen(0, 1, 10, 1), seen(0, 2, 100, 1), seen(1, 3, 1000, 1)}}, [][]int{{1, -4, -2, 3}}, []int{1 - 1000 - 10 + 100}},
		// Marks in the order in which they are reached, not by their numbers: 2 ahead of 1.
		{survey.Survey{Marks: 4, Seen: []survey.Seen{seen(0, 2, 10, 1), seen(1, 3, 1, 1), seen(0, 1, 100, 1), seen(2, 3, 1000, 1)}}, [][]int{{2, -4, -1, 3}}, []int{1 - 1000 - 10 + 100}},
		// The way back turns at mark 0; then short of it, or at its own end.
		{survey.Survey{Marks: 4, Seen: []survey.Seen{seen(1, 0, 1, 1), seen(1, 2, 2, 1), seen(3, 1, 4, 1), seen(2, 3, 8, 1), seen(3, 0, 16, 1)}}, [][]int{{3, 1, -5}, {4, 5, -1, 2}}, []int{4 + 1 - 16, 8 + 16 - 1 + 2}},
		{survey.Survey{Marks: 4, Seen: []survey.Seen{seen(3, 2, 1, 1), seen(1, 0, 2, 1), seen(1, 2, 4, 1), seen(3, 1, 8, 1), seen(1, 3, 16, 1)}}, [][]int{{1, -3, -4}, {5, 4}}, []int{-11, 24}},
	} {
		loops, ups, err := c.s.Loops()
		if err != nil || !slices.EqualFunc(loops, c.loops, slices.Equal[[]int]) || !slices.Equal(ups, c.ups) {
			t.Error(c.s, loops, ups, err, c.loops, c.ups)
		}
	}
}

func end(s survey.Survey, way int) (from, to, up int) {
	if way < 0 {
		one := s.Seen[-way-1]
		return one.To, one.From, -one.Up
	}
	one := s.Seen[way-1]
	return one.From, one.To, one.Up
}

// depth of each mark: over how few that were seen it is reached.
func depth(s survey.Survey) []int {
	out := slices.Repeat([]int{s.Marks}, s.Marks)
	out[0] = 0
	for range s.Marks {
		for _, one := range s.Seen {
			out[one.To] = min(out[one.To], out[one.From]+1)
			out[one.From] = min(out[one.From], out[one.To]+1)
		}
	}
	return out
}

// P73: each loop is gone around, over no mark twice, and goes up by so much; beside what closes it, all is of the tree, in which no mark is deeper than it must be.
func TestLoopsClose(t *testing.T) {
	for _, s := range samples(73) {
		loops, ups, err := s.Loops()
		if err != nil || len(loops) != len(s.Seen)-s.Marks+1 || len(ups) != len(loops) {
			t.Fatal(s, loops, ups, err)
		}
		deep := depth(s)
		last := 0
		closing := map[int]bool{}
		for _, loop := range loops {
			closing[loop[0]] = true
		}
		for i, loop := range loops {
			if loop[0] <= last {
				t.Error(s, loops)
			}
			last = loop[0]
			at, _, _ := end(s, loop[0])
			start, up := at, 0
			var over []int
			for k, way := range loop {
				from, to, more := end(s, way)
				if from != at || slices.Contains(over, to) || k > 0 && (closing[way] || closing[-way] || deep[from]-deep[to] != 1 && deep[to]-deep[from] != 1) {
					t.Error(s, loop, k)
				}
				at, up, over = to, up+more, append(over, to)
			}
			if at != start || up != ups[i] {
				t.Error(s, loop, up, ups[i])
			}
		}
	}
}
