package survey

import (
	"slices"

	"mercator/api"
	"mercator/whole"
)

// ratio of any length, in any terms; den is above 0.
type ratio struct{ num, den whole.Number }

func (a ratio) frac() (api.Frac, error) { return whole.Frac(a.num, a.den) }

func (a ratio) below(b ratio) bool {
	return a.num.Times(b.den).Less(b.num.Times(a.den)).Sign() < 0
}

// Worst: without which the sum is least.
func (s Survey) Worst() (int, api.Frac, bool, error) {
	if err := s.Valid(); err != nil {
		return 0, api.Frac{}, false, err
	}
	worst, least := -1, ratio{}
	for i := range s.Seen {
		rest := s.without(i)
		if _, all := rest.tree(); !all {
			continue
		}
		if sum := rest.level().sum(rest.Seen); worst < 0 || sum.below(least) {
			worst, least = i, sum
		}
	}
	if worst < 0 {
		return 0, api.Frac{}, false, nil
	}
	sum, err := least.frac()
	if err != nil {
		return 0, api.Frac{}, false, err
	}
	return worst, sum, true, nil
}

func (s Survey) without(i int) Survey {
	return Survey{Marks: s.Marks, Base: s.Base, Seen: slices.Concat(s.Seen[:i], s.Seen[i+1:])}
}
