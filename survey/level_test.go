package survey_test

import (
	"math/big"
	"slices"
	"testing"

	"mercator/api"
	"mercator/survey"
)

func rat(a api.Frac) *big.Rat { return big.NewRat(int64(a.Num), int64(a.Den)) }

// right: a fraction of any length, as it is told; false: it is too long.
func right(r *big.Rat) (api.Frac, bool) {
	limit := big.NewInt(api.MaxPart)
	if r.Num().CmpAbs(limit) > 0 || r.Denom().Cmp(limit) > 0 {
		return api.Frac{}, false
	}
	return frac(int(r.Num().Int64()), int(r.Denom().Int64())), true
}

// adjusted: the heights of a valid survey, by fractions of any length: a mark's height is the mean of what the others and the ways to it tell, and so it is put into all that speak of it, mark by mark.
func adjusted(s survey.Survey) []*big.Rat {
	share := make([][]*big.Rat, s.Marks) // of each mark: how much of each height it is, and a number beside
	for i := range share {
		for range s.Marks + 1 {
			share[i] = append(share[i], new(big.Rat))
		}
	}
	weight := make([]int64, s.Marks)
	for _, one := range s.Seen {
		w := big.NewRat(int64(one.Weight), 1)
		up := new(big.Rat).Mul(w, big.NewRat(int64(one.Up), 1))
		share[one.To][one.From].Add(share[one.To][one.From], w)
		share[one.From][one.To].Add(share[one.From][one.To], w)
		share[one.To][s.Marks].Add(share[one.To][s.Marks], up)
		share[one.From][s.Marks].Sub(share[one.From][s.Marks], up)
		weight[one.From] += int64(one.Weight)
		weight[one.To] += int64(one.Weight)
	}
	for mark := s.Marks - 1; mark > 0; mark-- {
		row := share[mark]
		for _, x := range row {
			x.Quo(x, big.NewRat(weight[mark], 1))
		}
		// What is of its own height is taken to the other side.
		rest := new(big.Rat).Sub(big.NewRat(1, 1), row[mark])
		row[mark].SetInt64(0)
		for _, x := range row {
			x.Quo(x, rest)
		}
		for i := range mark {
			times := new(big.Rat).Set(share[i][mark])
			share[i][mark].SetInt64(0)
			for j, x := range row {
				share[i][j].Add(share[i][j], new(big.Rat).Mul(times, x))
			}
		}
	}
	out := []*big.Rat{big.NewRat(int64(s.Base), 1)}
	for mark := 1; mark < s.Marks; mark++ {
		h := new(big.Rat).Set(share[mark][s.Marks])
		for i, high := range out {
			h.Add(h, new(big.Rat).Mul(share[mark][i], high))
		}
		out = append(out, h)
	}
	return out
}

// leftOver: what is left of each, and the sum.
func leftOver(s survey.Survey, heights []*big.Rat) ([]*big.Rat, *big.Rat) {
	var out []*big.Rat
	sum := new(big.Rat)
	for _, one := range s.Seen {
		left := new(big.Rat).Sub(heights[one.To], heights[one.From])
		left.Sub(left, big.NewRat(int64(one.Up), 1))
		square := new(big.Rat).Mul(left, left)
		sum.Add(sum, square.Mul(square, big.NewRat(int64(one.Weight), 1)))
		out = append(out, left)
	}
	return out, sum
}

// allRight: all of them as they are told, or ErrBound.
func allRight(l ...*big.Rat) ([]api.Frac, error) {
	var out []api.Frac
	for _, r := range l {
		f, ok := right(r)
		if !ok {
			return nil, api.ErrBound
		}
		out = append(out, f)
	}
	return out, nil
}

// ring: marks in a ring, gone around once, with these weights; around it goes up by one.
func ring(weights ...int) survey.Survey {
	s := survey.Survey{Marks: len(weights)}
	for i, w := range weights {
		s.Seen = append(s.Seen, seen(i, (i+1)%len(weights), 0, w))
	}
	s.Seen[0].Up = 1
	return s
}

// P71: rows that were worked out by hand.
func TestAdjust(t *testing.T) {
	heavy := triangle()
	heavy.Seen[2].Weight = 2
	for _, c := range []struct {
		s    survey.Survey
		want []api.Frac
	}{
		{triangle(), []api.Frac{frac(100, 1), frac(109, 1), frac(113, 1)}},
		{heavy, []api.Frac{frac(100, 1), frac(544, 5), frac(563, 5)}},
		{survey.Survey{Marks: 1, Base: -7}, []api.Frac{frac(-7, 1)}},
		{survey.Survey{Marks: 2, Base: -1, Seen: []survey.Seen{seen(0, 1, 1, 1)}}, []api.Frac{frac(-1, 1), frac(0, 1)}},
		{survey.Survey{Marks: 2, Seen: []survey.Seen{seen(0, 1, 1, 1), seen(1, 0, -2, 3)}}, []api.Frac{frac(0, 1), frac(7, 4)}},
		{survey.Survey{Marks: 2, Seen: []survey.Seen{seen(0, 1, 1, 1000), seen(0, 1, 0, 1), seen(1, 0, 0, 999)}}, []api.Frac{frac(0, 1), frac(1, 2)}},
		{survey.Survey{Marks: 3, Base: api.MaxHigh, Seen: []survey.Seen{seen(2, 1, api.MaxHigh, 5), seen(2, 0, -api.MaxHigh, 9)}}, []api.Frac{frac(api.MaxHigh, 1), frac(3*api.MaxHigh, 1), frac(2*api.MaxHigh, 1)}},
		{ring(1, 1, 1, 1, 1, 1, 1), []api.Frac{frac(0, 1), frac(6, 7), frac(5, 7), frac(4, 7), frac(3, 7), frac(2, 7), frac(1, 7)}},
	} {
		if got, err := c.s.Adjust(); err != nil || !slices.Equal(got, c.want) {
			t.Error(c.s, got, err, c.want)
		}
	}
}

// P71: exactly, or ErrBound, if one height is not right.
func TestAdjustIsExact(t *testing.T) {
	long := 0
	for _, s := range samples(71) {
		want, fault := allRight(adjusted(s)...)
		if fault != nil {
			long++
		}
		if got, err := s.Adjust(); err != fault || !slices.Equal(got, want) {
			t.Error(s, got, err, want, fault)
		}
	}
	if long < 20 {
		t.Error("next to no sample is too long", long)
	}
}

// P71: what is told is where the sum is least: it grows, whichever height is changed a little.
func TestAdjustIsLeast(t *testing.T) {
	for _, s := range samples(710) {
		heights, err := s.Adjust()
		if err != nil {
			continue
		}
		var all []*big.Rat
		for _, h := range heights {
			all = append(all, rat(h))
		}
		_, least := leftOver(s, all)
		for mark := 1; mark < s.Marks; mark++ {
			for _, by := range []*big.Rat{big.NewRat(1, 1<<40), big.NewRat(-1, 1<<40), big.NewRat(3, 1)} {
				kept := all[mark]
				all[mark] = new(big.Rat).Add(kept, by)
				if _, sum := leftOver(s, all); sum.Cmp(least) <= 0 {
					t.Error(s, mark, by, sum, least)
				}
				all[mark] = kept
			}
		}
	}
}

// long: a ring of which the heights, all that is left and the sum are right, and not by much.
func long() survey.Survey { return ring(1000, 999, 997, 991, 983, 977) }

// steep: beside it, a mark that is higher by so much than the last one.
func steep(up int) survey.Survey {
	s := long()
	s.Seen = append(s.Seen, seen(s.Marks-1, s.Marks, up, 1))
	s.Marks++
	return s
}

// P71: heights on both sides of what is right, by what is below and by what is above the line.
func TestAdjustBound(t *testing.T) {
	fits, tooLong := ring(907, 887, 883, 881, 877, 911, 919), ring(907, 887, 883, 881, 877, 911, 919, 929)
	if l, err := fits.Adjust(); err != nil || l[6].Den < 1<<61 {
		t.Error(l, err)
	}
	if l, err := tooLong.Adjust(); l != nil || err != api.ErrBound {
		t.Error(l, err)
	}
	l, err := long().Adjust()
	if err != nil {
		t.Fatal(err)
	}
	last := l[len(l)-1]
	most, least := (api.MaxPart-last.Num)/last.Den, -(api.MaxPart+last.Num)/last.Den
	if l, err := steep(most).Adjust(); err != nil || l[len(l)-1] != frac(last.Num+most*last.Den, last.Den) {
		t.Error(l, err)
	}
	if l, err := steep(most + 1).Adjust(); l != nil || err != api.ErrBound {
		t.Error(l, err)
	}
	if l, err := steep(least).Adjust(); err != nil || l[len(l)-1] != frac(last.Num+least*last.Den, last.Den) {
		t.Error(l, err)
	}
	if l, err := steep(least - 1).Adjust(); l != nil || err != api.ErrBound {
		t.Error(l, err)
	}
}

// P72: rows that were worked out by hand.
func TestLeft(t *testing.T) {
	heavy := triangle()
	heavy.Seen[2].Weight = 2
	for _, c := range []struct {
		s    survey.Survey
		want []api.Frac
		sum  api.Frac
	}{
		{triangle(), []api.Frac{frac(-1, 1), frac(-1, 1), frac(-1, 1)}, frac(3, 1)},
		{heavy, []api.Frac{frac(-6, 5), frac(-6, 5), frac(-3, 5)}, frac(18, 5)},
		{survey.Survey{Marks: 1, Base: 5}, nil, frac(0, 1)},
		{survey.Survey{Marks: 2, Base: 9, Seen: []survey.Seen{seen(1, 0, 4, 7)}}, []api.Frac{frac(0, 1)}, frac(0, 1)},
		{survey.Survey{Marks: 2, Seen: []survey.Seen{seen(0, 1, 1, 1), seen(1, 0, -2, 3)}}, []api.Frac{frac(3, 4), frac(1, 4)}, frac(3, 4)},
		{survey.Survey{Marks: 2, Base: api.MaxHigh, Seen: []survey.Seen{seen(0, 1, api.MaxHigh, 1000), seen(1, 0, api.MaxHigh, 1000)}}, []api.Frac{frac(-api.MaxHigh, 1), frac(-api.MaxHigh, 1)}, frac(2000<<40, 1)},
	} {
		if got, sum, err := c.s.Left(); err != nil || sum != c.sum || !slices.Equal(got, c.want) {
			t.Error(c.s, got, sum, err, c)
		}
	}
}

// P72: exactly, or ErrBound, if a height, something that is left, or the sum is not right.
func TestLeftIsExact(t *testing.T) {
	heightsRight, long := 0, 0
	for _, s := range samples(72) {
		heights := adjusted(s)
		left, sum := leftOver(s, heights)
		want, fault := allRight(append(left, sum)...)
		if _, err := allRight(heights...); err != nil {
			want, fault = nil, err
		} else {
			heightsRight++
		}
		if fault != nil {
			want = []api.Frac{{}}
			long++
		}
		if got, sum, err := s.Left(); err != fault || !slices.Equal(append(got, sum), want) {
			t.Error(s, got, sum, err, want, fault)
		}
	}
	if long < 20 || heightsRight < 20 {
		t.Error("samples are too much alike", long, heightsRight)
	}
}

// P72: with all heights right, the sum may not be; with all that is left right, and the sum, a height may not be.
func TestLeftBound(t *testing.T) {
	rough := ring(1000, 999, 997, 991)
	rough.Seen[0].Up, rough.Seen[1].Up = api.MaxHigh, api.MaxHigh-1
	heights, err := rough.Adjust()
	left, sum, other := rough.Left()
	if len(heights) != 4 || err != nil || left != nil || sum != (api.Frac{}) || other != api.ErrBound {
		t.Error(heights, err, left, sum, other)
	}
	left, sum, err = long().Left()
	more, same, other := steep(5).Left()
	if len(left) != 6 || sum.Den < 1<<50 || err != nil || !slices.Equal(more, append(left, frac(0, 1))) || same != sum || other != nil {
		t.Error(left, sum, err, more, same, other)
	}
	if left, sum, err := steep(1000).Left(); left != nil || sum != (api.Frac{}) || err != api.ErrBound {
		t.Error(left, sum, err)
	}
}
