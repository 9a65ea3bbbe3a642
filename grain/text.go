package grain

import (
	"strconv"
	"strings"

	"mercator/api"
)

// Text of a fraction.
func Text(a api.Frac) string {
	if !right(a) {
		return ""
	}
	num := strconv.Itoa(a.Num)
	if a.Den == 1 {
		return num
	}
	return num + "/" + strconv.Itoa(a.Den)
}

// Read a fraction.
func Read(text string) (api.Frac, error) {
	if at := wrongByte(text); at >= 0 {
		return api.Frac{}, &api.Fault{At: at, Err: api.ErrText}
	}
	digits, below := strings.CutPrefix(text, "-")
	above, under, found := strings.Cut(digits, "/")
	if !found {
		under = "1"
	}
	den := readNatural(under)
	if len(den) == 0 {
		return api.Frac{}, &api.Fault{Err: api.ErrShape}
	}
	a, ok := lowest(readNatural(above), den)
	if !ok {
		return api.Frac{}, &api.Fault{Err: api.ErrBound}
	}
	if below {
		a.Num = -a.Num
	}
	return a, nil
}

// wrongByte: the first one that cannot stand there, or the length of a text that ends too early; -1: it is a fraction's text.
func wrongByte(text string) int {
	at := 0
	if strings.HasPrefix(text, "-") {
		at = 1
	}
	end := pastDigits(text, at)
	if end > at && end < len(text) && text[end] == '/' {
		at = end + 1
		end = pastDigits(text, at)
	}
	if end > at && end == len(text) {
		return -1
	}
	return end
}

func pastDigits(text string, at int) int {
	for at < len(text) && text[at] >= '0' && text[at] <= '9' {
		at++
	}
	return at
}
