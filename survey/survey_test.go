package survey_test

import (
	"math"
	"math/rand"
	"slices"
	"testing"

	"mercator/api"
	"mercator/survey"
)

func seen(from, to, up, weight int) survey.Seen {
	return survey.Seen{From: from, To: to, Up: up, Weight: weight}
}

func frac(num, den int) api.Frac { return api.Frac{Num: num, Den: den} }

// triangle: three marks, of which nothing but going around tells that they do not fit.
func triangle() survey.Survey {
	return survey.Survey{Marks: 3, Base: 100, Seen: []survey.Seen{seen(0, 1, 10, 1), seen(1, 2, 5, 1), seen(2, 0, -12, 1)}}
}

// sample: a survey of so many marks, all of which are reached, with so many seen beside a tree.
func sample(r *rand.Rand, marks, more, high, heavy int) survey.Survey {
	s := survey.Survey{Marks: marks, Base: r.Intn(2*high+1) - high}
	add := func(a, b int) {
		if r.Intn(2) == 0 {
			a, b = b, a
		}
		s.Seen = append(s.Seen, seen(a, b, r.Intn(2*high+1)-high, r.Intn(heavy)+1))
	}
	names := append([]int{0}, r.Perm(marks-1)...)
	for i := 1; i < marks; i++ {
		names[i]++
		add(names[i], names[r.Intn(i)])
	}
	for range more {
		if a := r.Intn(marks); marks > 1 {
			add(a, (a+1+r.Intn(marks-1))%marks)
		}
	}
	r.Shuffle(len(s.Seen), func(i, j int) { s.Seen[i], s.Seen[j] = s.Seen[j], s.Seen[i] })
	return s
}

// samples of all sizes; of the greater ones, numbers are too great for right fractions.
func samples(seed int64) []survey.Survey {
	r := rand.New(rand.NewSource(seed))
	out := []survey.Survey{triangle(), {Marks: 1}, {Marks: 1, Base: -api.MaxHigh}}
	for _, heavy := range []int{1, 4, 1000} {
		for _, high := range []int{2, 1000, api.MaxHigh} {
			for marks := 1; marks <= api.MaxMarks; marks++ {
				for _, more := range []int{0, 1, 3, api.MaxSeen - marks + 1} {
					out = append(out, sample(r, marks, more, high, heavy))
				}
			}
		}
	}
	return out
}

// wrong: every call tells that error, bare, and zeros.
func wrong(t *testing.T, s survey.Survey, want error) {
	t.Helper()
	heights, err := s.Adjust()
	left, sum, other := s.Left()
	if s.Valid() != want || len(heights) != 0 || err != want || len(left) != 0 || sum != (api.Frac{}) || other != want {
		t.Error(s, want, s.Valid(), heights, err, left, sum, other)
	}
	loops, ups, err := s.Loops()
	n, sum, ok, other := s.Worst()
	if len(loops) != 0 || len(ups) != 0 || err != want || n != 0 || sum != (api.Frac{}) || ok || other != want {
		t.Error(s, want, loops, ups, err, n, sum, ok, other)
	}
}

// P70: marks up to MaxMarks, and up to MaxSeen seen.
func TestTooMuch(t *testing.T) {
	for _, marks := range []int{api.MaxMarks + 1, api.MaxMarks + 2, math.MaxInt} {
		wrong(t, survey.Survey{Marks: marks}, api.ErrBound)
		wrong(t, survey.Survey{Marks: marks, Base: math.MaxInt, Seen: []survey.Seen{seen(-1, -1, math.MinInt, 0)}}, api.ErrBound)
	}
	for _, many := range []int{api.MaxSeen + 1, 1000} {
		wrong(t, survey.Survey{Marks: 2, Seen: slices.Repeat([]survey.Seen{seen(0, 1, 0, 1)}, many)}, api.ErrBound)
		wrong(t, survey.Survey{Marks: -1, Seen: make([]survey.Seen, many)}, api.ErrBound)
	}
	long := survey.Survey{Marks: api.MaxMarks}
	for i := range api.MaxSeen {
		long.Seen = append(long.Seen, seen(i%11, i%11+1, 0, 1))
	}
	if err := long.Valid(); err != nil {
		t.Error(err)
	}
}

// P70: what no survey is made of.
func TestMisshapen(t *testing.T) {
	for _, marks := range []int{0, -1, math.MinInt} {
		wrong(t, survey.Survey{Marks: marks}, api.ErrShape)
	}
	for _, high := range []int{api.MaxHigh + 1, -api.MaxHigh - 1, math.MaxInt, math.MinInt} {
		s := triangle()
		s.Base = high
		wrong(t, s, api.ErrShape)
		s.Marks = 4 // one that no way leads to, too
		wrong(t, s, api.ErrShape)
	}
	wrong(t, survey.Survey{Marks: 1, Seen: []survey.Seen{seen(0, 0, 0, 1)}}, api.ErrShape)
	for _, one := range []survey.Seen{
		{}, seen(0, 0, 3, 1), seen(2, 2, 0, 1), seen(0, 3, 0, 1), seen(3, 0, 0, 1), seen(-1, 0, 0, 1), seen(0, -1, 0, 1), seen(-1, -1, 0, 1),
		seen(math.MaxInt, 0, 0, 1), seen(math.MinInt, 0, 0, 1), seen(0, math.MaxInt, 0, 1), seen(0, math.MinInt, 0, 1),
		seen(0, 1, 0, 0), seen(0, 1, 0, -1), seen(0, 1, 0, 1001), seen(0, 1, 0, math.MaxInt), seen(0, 1, 0, math.MinInt),
		seen(0, 1, api.MaxHigh+1, 1), seen(0, 1, -api.MaxHigh-1, 1), seen(0, 1, math.MaxInt, 1), seen(0, 1, math.MinInt, 1),
	} {
		for at := range 4 {
			s := triangle()
			s.Seen = slices.Insert(s.Seen, at, one)
			wrong(t, s, api.ErrShape)
			s.Marks, s.Seen = 3, s.Seen[at:at+1] // with marks that no way leads to, too
			wrong(t, s, api.ErrShape)
		}
	}
}

// P70: no way, whichever way round the rest was seen.
func TestNotReached(t *testing.T) {
	for _, s := range []survey.Survey{
		{Marks: 2},
		{Marks: 12},
		{Marks: 3, Seen: []survey.Seen{seen(0, 1, 1, 1)}},
		{Marks: 3, Seen: []survey.Seen{seen(2, 0, 1, 1), seen(0, 2, 1, 1)}},
		{Marks: 3, Seen: []survey.Seen{seen(1, 2, 1, 1), seen(2, 1, 1, 1)}},
		{Marks: 5, Seen: []survey.Seen{seen(3, 4, 1, 1), seen(0, 1, 1, 1), seen(4, 2, 1, 1), seen(2, 3, 1, 1)}},
	} {
		wrong(t, s, api.ErrNone)
	}
}

// P70: the edges that are still valid; mark 11 is reached against all arrows.
func TestValid(t *testing.T) {
	far := survey.Survey{Marks: 12, Base: -api.MaxHigh}
	for i := range 11 {
		far.Seen = append(far.Seen, seen(i+1, i, api.MaxHigh, 1000))
	}
	back := survey.Survey{Marks: 12, Base: api.MaxHigh, Seen: slices.Clone(far.Seen)}
	slices.Reverse(back.Seen)
	back.Seen[3].Up = -api.MaxHigh
	for _, s := range append(samples(70), far, back) {
		if err := s.Valid(); err != nil {
			t.Error(s, err)
		}
	}
}

// P4: a survey is only read, and of two answers neither sees what is written into the other one.
func TestOwnMemory(t *testing.T) {
	r := rand.New(rand.NewSource(4))
	s := sample(r, 5, 4, 3, 2)
	kept := slices.Clone(s.Seen)
	heights, _ := s.Adjust()
	left, _, _ := s.Left()
	loops, ups, _ := s.Loops()
	want := slices.Clone(loops[1])
	clear(heights)
	clear(left)
	clear(ups)
	clear(append(loops[0], 9, 9, 9, 9))
	if !slices.Equal(loops[1], want) {
		t.Error(loops, want)
	}
	if _, _, _, err := s.Worst(); err != nil || !slices.Equal(s.Seen, kept) {
		t.Error(s.Seen, kept, err)
	}
	again, _ := s.Adjust()
	lefts, _, _ := s.Left()
	more, _, _ := s.Loops()
	if again[0] != frac(s.Base, 1) || lefts[0].Den == 0 || more[0][0] == 0 {
		t.Error(again, lefts, more)
	}
}

// P3: what lies behind the list's length is neither read nor written.
func TestBehindTheList(t *testing.T) {
	s := triangle()
	s.Seen = append(s.Seen, seen(7, 7, 7, 7))[:3]
	if n, sum, ok, err := s.Worst(); n != 0 || sum != frac(0, 1) || !ok || err != nil {
		t.Error(n, sum, ok, err)
	}
	if got := s.Seen[:4][3]; got != seen(7, 7, 7, 7) {
		t.Error(got)
	}
}
