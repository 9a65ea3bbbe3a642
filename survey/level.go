package survey

import (
	"mercator/api"
	"mercator/whole"
)

// level: how much higher than mark 0 each mark is, when it is adjusted.
type level struct {
	high []whole.Number
	over whole.Number // what all of them are to be divided by
}

// Adjust the heights.
func (s Survey) Adjust() ([]api.Frac, error) {
	if err := s.Valid(); err != nil {
		return nil, err
	}
	return s.level().heights(s.Base)
}

// Left of each that was seen, and the least sum.
func (s Survey) Left() ([]api.Frac, api.Frac, error) {
	if err := s.Valid(); err != nil {
		return nil, api.Frac{}, err
	}
	l := s.level()
	if _, err := l.heights(s.Base); err != nil {
		return nil, api.Frac{}, err
	}
	out := make([]api.Frac, len(s.Seen))
	for i, one := range s.Seen {
		var err error
		if out[i], err = whole.Frac(l.left(one), l.over); err != nil {
			return nil, api.Frac{}, err
		}
	}
	sum, err := l.sum(s.Seen).frac()
	if err != nil {
		return nil, api.Frac{}, err
	}
	return out, sum, nil
}

// level of a valid survey: its equations are solved with no fraction on the way, each number being a determinant of some of the first ones.
func (s Survey) level() level {
	rows := s.equations()
	over := whole.Of(1)
	for k := range rows {
		for i := range rows {
			if i != k {
				rows[i] = reduced(rows[i], rows[k], k, over)
			}
		}
		over = rows[k][k]
	}
	l := level{high: make([]whole.Number, s.Marks), over: over}
	for i, row := range rows {
		l.high[i+1] = row[len(row)-1]
	}
	return l
}

// equations of all marks but mark 0: where the sum is least, it changes with no height. Each row ends with its right side.
func (s Survey) equations() [][]whole.Number {
	sums := make([][]int, s.Marks)
	for i := range sums {
		sums[i] = make([]int, s.Marks+1)
	}
	for _, one := range s.Seen {
		from, to := sums[one.From], sums[one.To]
		from[one.From] += one.Weight
		from[one.To] -= one.Weight
		from[s.Marks] -= one.Weight * one.Up
		to[one.To] += one.Weight
		to[one.From] -= one.Weight
		to[s.Marks] += one.Weight * one.Up
	}
	var rows [][]whole.Number
	for _, l := range sums[1:] {
		var row []whole.Number
		for _, n := range l[1:] {
			row = append(row, whole.Of(n))
		}
		rows = append(rows, row)
	}
	return rows
}

// reduced: a row without its number k, by the row of that number. What was divided by last divides all of it.
func reduced(row, by []whole.Number, k int, over whole.Number) []whole.Number {
	out := make([]whole.Number, len(row))
	for j := range row {
		out[j] = by[k].Times(row[j]).Less(row[k].Times(by[j])).Over(over)
	}
	return out
}

func (l level) heights(base int) ([]api.Frac, error) {
	ground := whole.Of(base).Times(l.over)
	out := make([]api.Frac, len(l.high))
	for i, high := range l.high {
		var err error
		if out[i], err = whole.Frac(ground.Plus(high), l.over); err != nil {
			return nil, err
		}
	}
	return out, nil
}

// left of one that was seen, to be divided by over.
func (l level) left(one Seen) whole.Number {
	return l.high[one.To].Less(l.high[one.From]).Less(whole.Of(one.Up).Times(l.over))
}

func (l level) sum(seen []Seen) ratio {
	var num whole.Number
	for _, one := range seen {
		left := l.left(one)
		num = num.Plus(whole.Of(one.Weight).Times(left).Times(left))
	}
	return ratio{num: num, den: l.over.Times(l.over)}
}
