package field

import (
	"strconv"
	"strings"

	"mercator/api"
)

// most that a number of a text may be, in size: 9 digits.
const most = 999999999

// Text of a raster.
func Text(a api.Raster) (string, error) {
	if err := Valid(a); err != nil {
		return "", err
	}
	out := written(nil, a.Wide, a.High)
	for row := range a.High {
		out = written(out, a.L[row*a.Wide:(row+1)*a.Wide]...)
	}
	if len(out) > api.MaxText {
		return "", api.ErrBound
	}
	return string(out), nil
}

// written behind a text: a line of numbers.
func written(text []byte, l ...int) []byte {
	for i, n := range l {
		if i > 0 {
			text = append(text, ' ')
		}
		text = strconv.AppendInt(text, int64(n), 10)
	}
	return append(text, '\n')
}

// Read a raster.
func Read(text string) (api.Raster, error) {
	if len(text) > api.MaxText {
		return fault(0, api.ErrBound)
	}
	sides, rest, ok := numbers(text, 2)
	if !ok || !side(sides[0]) || !side(sides[1]) {
		return fault(0, api.ErrText)
	}
	a := api.Raster{Wide: sides[0], High: sides[1]}
	for row := range a.High {
		var heights []int
		if heights, rest, ok = numbers(rest, a.Wide); !ok {
			return fault(1+row, api.ErrText)
		}
		a.L = append(a.L, heights...)
	}
	if rest != "" {
		return fault(1+a.High, api.ErrText)
	}
	if Valid(a) != nil { // only the heights can be wrong by now
		return fault(0, api.ErrRange)
	}
	return a, nil
}

// numbers of the first line, so many, and the text behind it; false: there is no such line.
func numbers(text string, many int) ([]int, string, bool) {
	line, rest, ended := strings.Cut(text, "\n")
	words := strings.Split(line, " ")
	if !ended || len(words) != many {
		return nil, "", false
	}
	var out []int
	for _, word := range words {
		n, err := strconv.Atoi(word)
		if err != nil || !within(n, -most, most) || strconv.Itoa(n) != word { // one number has one text
			return nil, "", false
		}
		out = append(out, n)
	}
	return out, rest, true
}

func fault(at int, err error) (api.Raster, error) {
	return api.Raster{}, &api.Fault{At: at, Err: err}
}
