package grid

import "mercator/api"

const (
	letters    = "ABCDEFGHJKLMNPQRSTUV" // without I and O, which look like digits
	side       = 100000                 // metres, of a square that has letters alone
	sideDigits = 5
)

// Square in which a reference lies.
func (r Ref) Square(many int) (string, error) {
	if err := r.Valid(); err != nil {
		return "", err
	}
	if many < 0 || many > sideDigits {
		return "", api.ErrShape
	}
	return letter(r.East/side) + letter(r.North/side) + cut(r.East, many) + cut(r.North, many), nil
}

// In a square?
func (r Ref) In(square string) bool {
	own, err := r.Square(len(square)/2 - 1)
	return err == nil && own == square
}

// letter of a column or a row; behind the last one the first one follows.
func letter(n int) string {
	at := n % len(letters)
	return letters[at : at+1]
}

// cut: the first digits of how far into its square a number is.
func cut(n, many int) string { return padded(n%side, sideDigits)[:many] }
