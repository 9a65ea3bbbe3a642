package survey_test

import (
	"math/big"
	"slices"
	"testing"

	"mercator/api"
	"mercator/survey"
)

// P74: rows that were worked out by hand.
func TestWorst(t *testing.T) {
	for _, c := range []struct {
		s    survey.Survey
		n    int
		sum  api.Frac
		some bool
	}{
		{survey.Survey{Marks: 1}, 0, api.Frac{}, false},
		{survey.Survey{Marks: 3, Seen: []survey.Seen{seen(2, 1, 5, 1), seen(1, 0, 6, 1)}}, 0, api.Frac{}, false},
		// Without any of them all fits: the first.
		{triangle(), 0, frac(0, 1), true},
		// The first is the one way to mark 1, so it cannot be missed.
		{survey.Survey{Marks: 3, Seen: []survey.Seen{seen(0, 1, 10, 1), seen(1, 2, 5, 1), seen(2, 1, 5, 1)}}, 1, frac(0, 1), true},
		{survey.Survey{Marks: 3, Seen: []survey.Seen{seen(0, 1, 10, 1), seen(1, 2, 5, 1), seen(0, 2, 15, 1), seen(0, 1, 90, 1)}}, 3, frac(0, 1), true},
		// Three ways between two marks: 1, 2 and 4 up: without 4 it is (1/2)^2 twice.
		{survey.Survey{Marks: 2, Seen: []survey.Seen{seen(0, 1, 4, 1), seen(0, 1, 1, 1), seen(1, 0, -2, 1)}}, 0, frac(1, 2), true},
		// The weightier ones count for more: without 1 it is 3 * 2/5, without 2 it is 9 * 3/4 at least.
		{survey.Survey{Marks: 2, Base: 77, Seen: []survey.Seen{seen(0, 1, 1, 1), seen(0, 1, 4, 3), seen(0, 1, 5, 2)}}, 0, frac(6, 5), true},
		// Both loops miss by as much: the first of both.
		{survey.Survey{Marks: 3, Seen: []survey.Seen{seen(0, 1, 3, 1), seen(0, 1, 1, 1), seen(0, 2, 3, 1), seen(0, 2, 5, 1)}}, 0, frac(2, 1), true},
		{survey.Survey{Marks: 3, Seen: []survey.Seen{seen(0, 1, 3, 1), seen(0, 1, 1, 1), seen(0, 2, 3, 1), seen(0, 2, 6, 1)}}, 2, frac(2, 1), true},
	} {
		if n, sum, some, err := c.s.Worst(); n != c.n || sum != c.sum || some != c.some || err != nil {
			t.Error(c.s, n, sum, some, err, c)
		}
	}
}

// P74: exactly, whatever is too long on the way; ErrBound, if the sum that would be told is not right.
func TestWorstIsExact(t *testing.T) {
	some, long := 0, 0
	for i, s := range samples(74) {
		if len(s.Seen) > 20 && i%3 != 0 {
			continue // many of these take long
		}
		n, least := 0, (*big.Rat)(nil)
		for i := range s.Seen {
			rest := survey.Survey{Marks: s.Marks, Base: s.Base, Seen: slices.Delete(slices.Clone(s.Seen), i, i+1)}
			if rest.Valid() != nil {
				continue
			}
			if _, sum := leftOver(rest, adjusted(rest)); least == nil || sum.Cmp(least) < 0 {
				n, least = i, sum
			}
		}
		want, ok, fault := api.Frac{}, least != nil, error(nil)
		if ok {
			some++
			if want, ok = right(least); !ok {
				n, fault = 0, api.ErrBound
				long++
			}
		}
		if got, sum, told, err := s.Worst(); got != n || sum != want || told != ok || err != fault {
			t.Error(s, got, sum, told, err, n, want, ok, fault)
		}
	}
	if some < 100 || long < 20 || long > some-20 {
		t.Error("samples are too much alike", some, long)
	}
}

// P74: a sum that is not right is told as ErrBound if it is the least one, and is passed over if it is not.
func TestWorstBound(t *testing.T) {
	for _, c := range []struct {
		misses, n int
		sum       api.Frac
		some      bool
		err       error
	}{{1, 0, frac(1, 2), true, nil}, {10000, 0, api.Frac{}, false, api.ErrBound}} {
		// A long ring misses by 100: that sum is not right; two ways beside it miss by more or less.
		s := ring(1000, 999, 997, 991, 983, 977, 971, 967)
		s.Seen[0].Up = 100
		s.Marks++
		s.Seen = append(s.Seen, seen(0, 8, 0, 1), seen(8, 0, c.misses, 1))
		if heights, err := s.Adjust(); heights != nil || err != api.ErrBound {
			t.Error(heights, err)
		}
		if n, sum, some, err := s.Worst(); n != c.n || sum != c.sum || some != c.some || err != c.err {
			t.Error(c, n, sum, some, err)
		}
	}
}
