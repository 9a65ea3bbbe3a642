package grain_test

import (
	"errors"
	"math/big"
	"strings"
	"testing"

	"mercator/api"
	"mercator/grain"
)

func TestText(t *testing.T) {
	for want, a := range map[string]api.Frac{"0": frac(0, 1), "-1": frac(-1, 1), "-2/3": frac(-2, 3), "1/4611686018427387904": frac(1, most), "-4611686018427387904": frac(-most, 1)} {
		if got := grain.Text(a); got != want {
			t.Error(a, got, want)
		}
	}
}

func TestReadWhatTextTold(t *testing.T) {
	for _, a := range rightFracs() {
		if got, err := grain.Read(grain.Text(a)); got != a || err != nil {
			t.Error(a, got, err)
		}
	}
}

// nearBounds: whole numbers around which a text is still right, and no more.
func nearBounds() []string {
	out := []string{"0", "000", "1", "9", "10", "18446744073709551615", "18446744073709551616", "18446744073709551617"}
	for _, e := range []uint{61, 62, 63, 124, 126} {
		n := new(big.Int).Lsh(big.NewInt(1), e)
		for d := int64(-2); d <= 2; d++ {
			out = append(out, new(big.Int).Add(n, big.NewInt(d)).String())
		}
	}
	for _, e := range []int{17, 18, 19, 36, 37, 90} {
		out = append(out, "1"+strings.Repeat("0", e), strings.Repeat("9", e), "00"+strings.Repeat("7", e))
	}
	return out
}

func decimal(digits string) *big.Int {
	n, _ := new(big.Int).SetString(digits, 10)
	return n
}

func TestReadIsExact(t *testing.T) {
	for _, num := range nearBounds() {
		for _, den := range nearBounds() {
			for _, text := range []string{num + "/" + den, "-" + num + "/" + den} {
				got, err := grain.Read(text)
				if strings.Trim(den, "0") == "" {
					checkFault(t, text, got, err, 0, api.ErrShape)
					continue
				}
				r := new(big.Rat).SetFrac(decimal(num), decimal(den))
				if text[0] == '-' {
					r.Neg(r)
				}
				want, fault := exact(r)
				if fault != nil {
					checkFault(t, text, got, err, 0, api.ErrBound)
				} else if got != want || err != nil {
					t.Error(text, got, err, want)
				}
			}
		}
	}
}

// TestReadScaled: both numbers are far beyond the bounds, what is left in the lowest terms lies at them.
func TestReadScaled(t *testing.T) {
	for _, digits := range []int{1, 18, 19, 100, 5000} {
		by := decimal(strings.Repeat("73", digits))
		for _, a := range append(rightFracs(), frac(most-1, most), frac(2971215073, 1836311903), frac(2880067194370816120, 1779979416004714189)) {
			r := rat(a)
			text := new(big.Int).Mul(r.Num(), by).String() + "/" + new(big.Int).Mul(r.Denom(), by).String()
			if got, err := grain.Read(text); got != a || err != nil {
				t.Fatal(a, digits, got, err)
			}
		}
	}
}

func TestReadLongTexts(t *testing.T) {
	long := strings.Repeat("8", 2000000)
	if got, err := grain.Read(long + "/" + long); got != frac(1, 1) || err != nil {
		t.Error(got, err)
	}
	if got, err := grain.Read(strings.Repeat("0", 2000000) + "3/6"); got != frac(1, 2) || err != nil {
		t.Error(got, err)
	}
	for _, text := range []string{long, "1/" + long, long + "/7", long + "/" + long + "9", long + "/" + long[1:] + "7"} {
		got, err := grain.Read(text)
		checkFault(t, "a long text", got, err, 0, api.ErrBound)
	}
}

func TestReadFaults(t *testing.T) {
	for _, c := range []struct {
		text string
		at   int
		err  error
	}{
		{"", 0, api.ErrText}, {"-", 1, api.ErrText}, {"--1", 1, api.ErrText}, {"+1", 0, api.ErrText}, {" 1", 0, api.ErrText}, {"1 ", 1, api.ErrText}, {"1.5", 1, api.ErrText}, {"1e3", 1, api.ErrText}, {"0x1", 1, api.ErrText}, {"1_0", 1, api.ErrText},
		{"/", 0, api.ErrText}, {"/2", 0, api.ErrText}, {"-/2", 1, api.ErrText}, {"12/", 3, api.ErrText}, {"12/-3", 3, api.ErrText}, {"12/+3", 3, api.ErrText}, {"12//3", 3, api.ErrText}, {"12/3/4", 4, api.ErrText}, {"1/2x", 3, api.ErrText}, {"1-", 1, api.ErrText},
		{"\u0661", 0, api.ErrText}, {"1\u0661", 1, api.ErrText}, {"1/\xff", 2, api.ErrText}, {"1\x00", 1, api.ErrText},
		{"0/0 ", 3, api.ErrText}, {"4611686018427387905x", 19, api.ErrText},
		{"1/0", 0, api.ErrShape}, {"0/0", 0, api.ErrShape}, {"-7/000", 0, api.ErrShape}, {"99999999999999999999/0", 0, api.ErrShape},
		{"4611686018427387905", 0, api.ErrBound}, {"-4611686018427387905", 0, api.ErrBound}, {"1/4611686018427387905", 0, api.ErrBound},
	} {
		got, err := grain.Read(c.text)
		checkFault(t, c.text, got, err, c.at, c.err)
	}
}

func checkFault(t *testing.T, text string, got api.Frac, err error, at int, want error) {
	t.Helper()
	var f *api.Fault
	if got != (api.Frac{}) || !errors.As(err, &f) || f.At != at || f.Err != want {
		t.Errorf("%q: %v, %v, %+v; want %v at %d", text, got, err, f, want, at)
	}
}
