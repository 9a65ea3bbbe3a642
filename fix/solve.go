package fix

import (
	"mercator/api"
	"mercator/whole"
)

// equation: so many x and so many y are so much.
type equation [3]int

// normal: of some equations, the sums of all products of two of their three numbers.
type normal [3][3]whole.Number

// Solve for the point.
func Solve(l []Range) (x, y api.Frac, err error) {
	if err := Valid(l); err != nil {
		return api.Frac{}, api.Frac{}, err
	}
	sums := added(differences(l))
	over := sums.crossed(0, 1)
	if over.Sign() == 0 {
		return api.Frac{}, api.Frac{}, api.ErrNone
	}
	if x, err = whole.Frac(sums.crossed(2, 1), over); err != nil {
		return api.Frac{}, api.Frac{}, err
	}
	if y, err = whole.Frac(sums.crossed(0, 2), over); err != nil {
		return api.Frac{}, api.Frac{}, err
	}
	return x, y, nil
}

// differences of all others from the first one.
func differences(l []Range) []equation {
	var out []equation
	for i := 1; i < len(l); i++ {
		first, other := l[0], l[i]
		out = append(out, equation{
			2 * (other.From.X - first.From.X),
			2 * (other.From.Y - first.From.Y),
			other.beyond() - first.beyond(),
		})
	}
	return out
}

// beyond: by how much the square of how far (0, 0) is from the point is more than Square.
func (r Range) beyond() int { return apart(r.From, api.Spot{}) - r.Square }

func added(l []equation) normal {
	var sums normal
	for _, e := range l {
		for i, a := range e {
			for j, b := range e {
				sums[i][j] = sums[i][j].Plus(whole.Of(a).Times(whole.Of(b)))
			}
		}
	}
	return sums
}

// crossed: the determinant of two columns, of the two rows that hold where the sum of squares is least: two of these are x, or y, by Cramer's rule.
func (n normal) crossed(a, b int) whole.Number {
	return n[0][a].Times(n[1][b]).Less(n[0][b].Times(n[1][a]))
}
