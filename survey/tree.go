package survey

import "slices"

// A way is along one that was seen: its number from 1 on, below 0 where it is gone from To to From.

// tree: by which way each mark is first reached (0: mark 0, or none); and whether all are.
func (s Survey) tree() (by []int, all bool) {
	by = make([]int, s.Marks)
	reached := []int{0}
	for i := range s.Marks {
		if i == len(reached) {
			return nil, false
		}
		for k, one := range s.Seen {
			next, way := one.out(reached[i], k+1)
			if next != 0 && by[next] == 0 {
				by[next] = way
				reached = append(reached, next)
			}
		}
	}
	return by, true
}

// out of a mark, along one of that number: where to and by which way; mark 0, which is reached ahead of all, where it does not lead out of it.
func (one Seen) out(mark, number int) (next, way int) {
	switch mark {
	case one.From:
		return one.To, number
	case one.To:
		return one.From, -number
	}
	return 0, 0
}

// Loops that close.
func (s Survey) Loops() ([][]int, []int, error) {
	if err := s.Valid(); err != nil {
		return nil, nil, err
	}
	by, _ := s.tree()
	var loops [][]int
	var ups []int
	for k, one := range s.Seen {
		number := k + 1
		if by[one.To] == number || by[one.From] == -number {
			continue
		}
		loop := append([]int{number}, s.between(by, one.To, one.From)...)
		loops = append(loops, loop)
		ups = append(ups, s.up(loop))
	}
	return loops, ups, nil
}

// between two marks, in the tree.
func (s Survey) between(by []int, from, to int) []int {
	there, back := s.home(by, from), s.home(by, to)
	// Once they have met, both ways home are one.
	for len(there) > 0 && len(back) > 0 && there[len(there)-1] == back[len(back)-1] {
		there, back = there[:len(there)-1], back[:len(back)-1]
	}
	slices.Reverse(back)
	for _, way := range back {
		there = append(there, -way)
	}
	return there
}

// home: from a mark to mark 0, in the tree.
func (s Survey) home(by []int, mark int) []int {
	var out []int
	for mark != 0 {
		way := by[mark]
		out = append(out, -way)
		mark = s.start(way)
	}
	return out
}

func (s Survey) start(way int) int {
	if way < 0 {
		return s.Seen[-way-1].To
	}
	return s.Seen[way-1].From
}

func (s Survey) up(ways []int) int {
	sum := 0
	for _, way := range ways {
		if way < 0 {
			sum -= s.Seen[-way-1].Up
		} else {
			sum += s.Seen[way-1].Up
		}
	}
	return sum
}
