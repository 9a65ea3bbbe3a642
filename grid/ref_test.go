package grid_test

import (
	"math"
	"strings"
	"testing"

	"mercator/api"
	"mercator/grid"
)

// Halves of the globe.
const (
	north = false
	south = true
)

func ref(zone int, half bool, east, up int) grid.Ref {
	return grid.Ref{Zone: zone, South: half, East: east, North: up}
}

func notRefs() []grid.Ref {
	out := []grid.Ref{{}, ref(-1, north, math.MinInt, math.MaxInt)}
	for _, half := range []bool{north, south} {
		for _, zone := range []int{0, 61, -1, 100, math.MaxInt, math.MinInt} {
			out = append(out, ref(zone, half, 500000, 5000000))
		}
		for _, east := range []int{-1, 1000000, math.MaxInt, math.MinInt} {
			out = append(out, ref(32, half, east, 5000000))
		}
		for _, up := range []int{-1, 10000000, math.MaxInt, math.MinInt} {
			out = append(out, ref(32, half, 500000, up))
		}
	}
	return out
}

// P61, P62, P63: every call tells that a reference is not valid, whatever else is wrong.
func TestNotValid(t *testing.T) {
	for _, r := range notRefs() {
		text, err := r.Text()
		p, other := r.Place()
		if r.Valid() != api.ErrRange || text != "" || err != api.ErrRange || p != (api.Place{}) || other != api.ErrRange {
			t.Error(r, r.Valid(), text, err, p, other)
		}
		for _, many := range []int{-1, 0, 5, 6, math.MaxInt, math.MinInt} {
			if s, err := r.Square(many); s != "" || err != api.ErrRange {
				t.Error(r, many, s, err)
			}
		}
		for _, s := range []string{"", "A", "AA", "FK", "FK00", "FK0000000000"} {
			if r.In(s) {
				t.Error(r, s)
			}
		}
	}
}

// P61.
func TestText(t *testing.T) {
	for want, r := range map[string]grid.Ref{
		"07S 000005 4649776": ref(7, south, 5, 4649776),
		"01N 000000 0000000": ref(1, north, 0, 0),
		"60S 999999 9999999": ref(60, south, 999999, 9999999),
		"32N 465464 5247150": ref(32, north, 465464, 5247150),
		"10N 100000 1000000": ref(10, north, 100000, 1000000),
		"09S 099999 0999999": ref(9, south, 99999, 999999),
		"31N 000001 0000010": ref(31, north, 1, 10),
	} {
		if err := r.Valid(); err != nil {
			t.Error(r, err)
		}
		if got, err := r.Text(); got != want || err != nil {
			t.Error(r, got, err)
		}
		if got, err := grid.ReadRef(want); got != r || err != nil {
			t.Error(want, got, err)
		}
	}
}

// wrongText: ReadRef tells a fault, and nothing else.
func wrongText(t *testing.T, text string, at int, want error) {
	t.Helper()
	r, err := grid.ReadRef(text)
	fault, ok := err.(*api.Fault)
	if !ok || fault.At != at || fault.Err != want || r != (grid.Ref{}) {
		t.Errorf("%q: %v, %v (%v at %d)", text, r, err, want, at)
	}
}

// P61: at each place of the text every byte that may not stand there.
func TestReadRefOfWrongBytes(t *testing.T) {
	const right = "32S 465464 5247150"
	for at := range len(right) {
		may := "0123456789"
		switch at {
		case 2:
			may = "NS"
		case 3, 10:
			may = " "
		}
		for b := range 256 {
			text := right[:at] + string([]byte{byte(b)}) + right[at+1:]
			if strings.IndexByte(may, byte(b)) < 0 {
				wrongText(t, text, at, api.ErrText)
				wrongText(t, text[:at+1], at, api.ErrText)
				wrongText(t, text+"more", at, api.ErrText)
			} else if r, err := grid.ReadRef(text); at > 1 && (err != nil || told(t, r) != text) {
				t.Error(text, r, err)
			}
		}
	}
}

func told(t *testing.T, r grid.Ref) string {
	t.Helper()
	text, err := r.Text()
	if err != nil {
		t.Error(r, err)
	}
	return text
}

// P61: a text that ends too early, or too late.
func TestReadRefOfWrongLengths(t *testing.T) {
	const right = "32S 465464 5247150"
	for at := range len(right) {
		wrongText(t, right[:at], at, api.ErrText)
	}
	for _, more := range []string{"0", " ", "\n", "\x00", "N", right, strings.Repeat("0", api.MaxText)} {
		wrongText(t, right+more, len(right), api.ErrText)
	}
	for text, at := range map[string]int{
		"7S 465464 5247150": 1, "032S 465464 5247150": 2, "32S 65464 5247150": 9, "32S 0465464 5247150": 10, "32S  465464 5247150": 4,
		" 32S 465464 5247150": 0, "32 S 465464 5247150": 2, "32S465464 5247150": 3, "-2S 465464 5247150": 0, "32S -65464 5247150": 4, "32S 465464 +247150": 11,
		"32s 465464 5247150": 2, "32S\t465464 5247150": 3, "32S 4_5464 5247150": 5, "٣٢S 465464 5247150": 0,
	} {
		wrongText(t, text, at, api.ErrText)
	}
}

// P61: the zone is looked at behind the text.
func TestReadRefOfWrongZones(t *testing.T) {
	for tens := range 10 {
		for ones := range 10 {
			zone := string([]byte{byte('0' + tens), byte('0' + ones)})
			want := ref(10*tens+ones, north, 123456, 1234567)
			if want.Zone >= 1 && want.Zone <= 60 {
				if r, err := grid.ReadRef(zone + "N 123456 1234567"); r != want || err != nil {
					t.Error(zone, r, err)
				}
				continue
			}
			wrongText(t, zone+"N 123456 1234567", 0, api.ErrRange)
			wrongText(t, zone+"S 000000 0000000", 0, api.ErrRange)
			wrongText(t, zone+"N 123456 123456", 17, api.ErrText)
			wrongText(t, zone+"X 123456 1234567", 2, api.ErrText)
		}
	}
}
