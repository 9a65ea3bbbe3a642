package field_test

import (
	"math/rand"
	"regexp"
	"strconv"
	"strings"
	"testing"

	"mercator/api"
	"mercator/field"
	"mercator/plain"
)

// P95: rows that were worked out by hand.
func TestTexts(t *testing.T) {
	for text, a := range map[string]api.Raster{
		"1 1\n0\n":                        raster(1, 0),
		"3 1\n-1 0 10\n":                  raster(3, -1, 0, 10),
		"1 3\n-1\n0\n10\n":                raster(1, -1, 0, 10),
		"2 2\n1048576 -1048576\n7 -100\n": raster(2, api.MaxHigh, -api.MaxHigh, 7, -100),
	} {
		if got, err := field.Text(a); err != nil || got != text {
			t.Errorf("%v %q %v", a, got, err)
		}
		if got, err := field.Read(text); err != nil || !same(got, a) {
			t.Errorf("%q %v %v", text, got, err)
		}
	}
}

// P95: what Text tells, Read reads; the longest text has less than MaxText bytes.
func TestTextSamples(t *testing.T) {
	full := flat(api.MaxSide, api.MaxSide, -api.MaxHigh)
	for _, a := range append(samples(96), full, flat(1, api.MaxSide, 5), flat(api.MaxSide, 1, -5)) {
		text, err := field.Text(a)
		want := strconv.Itoa(a.Wide) + " " + strconv.Itoa(a.High) + "\n"
		for cell, height := range a.L {
			want += strconv.Itoa(height) + map[bool]string{true: "\n", false: " "}[cell%a.Wide == a.Wide-1]
		}
		if err != nil || text != want {
			t.Error(a, text, err)
		}
		if back, err := field.Read(text); err != nil || !same(back, a) {
			t.Error(a, back, err)
		}
	}
	if text, err := field.Text(full); err != nil || len(text) != len("128 128\n")+len(full.L)*len("-1048576 ") {
		t.Error(len(text), err)
	}
}

// unread: the text is none, for that reason, at that line.
func unread(t *testing.T, text string, want error, line int) {
	t.Helper()
	got, err := field.Read(text)
	fault, ok := err.(*api.Fault)
	if !ok || fault.Err != want || fault.At != line || !nothing(got) {
		code, at := plain.Code(err)
		t.Errorf("%.40q: %v, code %d at %d, want %v at %d", text, got, code, at, want, line)
	}
}

// P95: lines that are none of such a text.
func TestWrongLines(t *testing.T) {
	for _, c := range []struct {
		text string
		line int
	}{
		{"", 0}, {"\n", 0}, {" ", 0}, {"1\n", 0}, {"1 1", 0}, {"1 1 \n5\n", 0}, {" 1 1\n5\n", 0}, {"1  1\n5\n", 0}, {"1 1 1\n5\n", 0}, {"1\t1\n5\n", 0}, {"1 1\r\n5\r\n", 0},
		{"0 1\n\n", 0}, {"1 0\n", 0}, {"-1 1\n5\n", 0}, {"1 -1\n5\n", 0}, {"129 1\n5\n", 0}, {"1 129\n5\n", 0}, {"01 1\n5\n", 0}, {"1 01\n5\n", 0}, {"+1 1\n5\n", 0}, {"1 1000000000000000000000\n5\n", 0},
		{"1 1\n", 1}, {"1 1\n5", 1}, {"1 1\n\n", 1}, {"1 1\n 5\n", 1}, {"1 1\n5 \n", 1}, {"1 1\n5 6\n", 1}, {"2 1\n5\n", 1}, {"2 1\n5  6\n", 1}, {"2 1\n5 6 7\n", 1}, {"2 1\n5 6", 1}, {"2 1\n5\n6\n", 1}, {"1 2\n5 6\n", 1},
		{"1 1\n05\n", 1}, {"1 1\n00\n", 1}, {"1 1\n-0\n", 1}, {"1 1\n-05\n", 1}, {"1 1\n--5\n", 1}, {"1 1\n+5\n", 1}, {"1 1\n-\n", 1}, {"1 1\n5-\n", 1}, {"1 1\n5.0\n", 1}, {"1 1\n5e0\n", 1}, {"1 1\n0x5\n", 1}, {"1 1\n1_0\n", 1}, {"1 1\n\u0665\n", 1}, {"1 1\n5\x00\n", 1}, {"1 1\n\xff\n", 1}, {"1 1\n5\r\n", 1},
		{"1 1\n1000000000\n", 1}, {"1 1\n-1000000000\n", 1}, {"1 1\n0000000001\n", 1}, {"1 1\n9223372036854775807\n", 1}, {"1 1\n18446744073709551617\n", 1}, {"1 1\n" + strings.Repeat("9", 5000) + "\n", 1},
		{"1 1\n5\n\n", 2}, {"1 1\n5\n6\n", 2}, {"1 1\n5\n6", 2}, {"1 1\n5\n ", 2}, {"1 1\n5\n5\n7\n8\n", 2}, {"1 2\n5\n", 2}, {"1 2\n5\n6", 2}, {"1 2\n5\nx\ny\n", 2}, {"1 3\n5\n6\n", 3}, {"1 3\n5\n6\n7", 3}, {"1 3\n5\n6\n7\n8", 4},
		// Heights that are too great do not hide a wrong line behind them, nor one that lacks.
		{"1 2\n2000000\nx\n", 2}, {"1 2\n2000000\n", 2}, {"1 1\n2000000\n\n", 2}, {"2 1\n2000000 x\n", 1},
	} {
		unread(t, c.text, api.ErrText, c.line)
	}
}

// P95: heights alone, At 0, wherever they stand.
func TestWrongHeights(t *testing.T) {
	for _, height := range []string{"1048577", "-1048577", "2000000", "999999999", "-999999999", "100000000"} {
		for _, text := range []string{"1 1\nH\n", "2 1\nH 0\n", "2 2\n1 2\n3 H\n", "1 3\n0\nH\n0\n", "2 1\nH H\n"} {
			unread(t, strings.ReplaceAll(text, "H", height), api.ErrRange, 0)
		}
	}
	for _, height := range []string{"1048576", "-1048576"} {
		if got, err := field.Read("1 1\n" + height + "\n"); err != nil || strconv.Itoa(got.L[0]) != height {
			t.Error(got, err)
		}
	}
}

// P95: more than MaxText bytes, told first.
func TestLongTexts(t *testing.T) {
	for _, text := range []string{"1 1\n5\n", "1 2\n5\n", "1 2\n2000000\n0\n", "x", "1 1\n"} {
		unread(t, text+strings.Repeat("x", api.MaxText+1-len(text)), api.ErrBound, 0)
		unread(t, text+strings.Repeat("x\n", api.MaxText), api.ErrBound, 0)
		unread(t, strings.Repeat(" ", api.MaxText+1), api.ErrBound, 0)
	}
	unread(t, "1 1\n5\n"+strings.Repeat("x", api.MaxText-6), api.ErrText, 2)
	unread(t, "1 2\n5\n"+strings.Repeat("\n", api.MaxText-6), api.ErrText, 2)
	unread(t, strings.Repeat(" ", api.MaxText), api.ErrText, 0)
	unread(t, strings.Repeat("\n", api.MaxText), api.ErrText, 0)
}

// reader tells, by patterns, what is asked of a text: which error, at which line.
type reader struct{ sides, heights *regexp.Regexp }

func newReader() reader {
	number := `(0|-?[1-9][0-9]{0,8})`
	return reader{
		sides:   regexp.MustCompile(`^([1-9][0-9]{0,8}) ([1-9][0-9]{0,8})\n$`),
		heights: regexp.MustCompile(`^` + number + `( ` + number + `)*\n$`),
	}
}

func (r reader) tell(text string) (error, int) {
	lines := strings.SplitAfter(text, "\n") // the last one has no end
	m := r.sides.FindStringSubmatch(lines[0])
	if m == nil {
		return api.ErrText, 0
	}
	wide, _ := strconv.Atoi(m[1])
	high, _ := strconv.Atoi(m[2])
	if wide > api.MaxSide || high > api.MaxSide {
		return api.ErrText, 0
	}
	var err error
	for n := 1; n <= high; n++ {
		if n >= len(lines) || !r.heights.MatchString(lines[n]) || len(strings.Fields(lines[n])) != wide {
			return api.ErrText, n
		}
		for _, word := range strings.Fields(lines[n]) {
			if height, _ := strconv.Atoi(word); height > api.MaxHigh || height < -api.MaxHigh {
				err = api.ErrRange
			}
		}
	}
	if lines[high+1] != "" {
		return api.ErrText, high + 1
	}
	return err, 0
}

// P95: texts with some bytes changed: what is read is told by just this text, and the rest is refused at the right line.
func TestChangedTexts(t *testing.T) {
	r := rand.New(rand.NewSource(95))
	told := newReader()
	count := map[error]int{}
	for range 60000 {
		text, _ := field.Text(sample(r, 1+r.Intn(3), 1+r.Intn(3), []int{1, 12, api.MaxHigh}[r.Intn(3)]))
		b := []byte(text)
		for range 1 + r.Intn(2) {
			at, with := r.Intn(len(b)), "0123456789 -\n+x"[r.Intn(15)]
			switch r.Intn(3) {
			case 0:
				b[at] = with
			case 1:
				b = append(b[:at+1], b[at:]...)
				b[at] = with
			default:
				b = append(b[:at], b[at+1:]...)
			}
		}
		want, line := told.tell(string(b))
		count[want]++
		if want != nil {
			unread(t, string(b), want, line)
			continue
		}
		a, err := field.Read(string(b))
		if back, other := field.Text(a); err != nil || other != nil || back != string(b) {
			t.Errorf("%q %v %v %v", b, a, err, other)
		}
	}
	if count[nil] < 1000 || count[api.ErrText] < 1000 || count[api.ErrRange] < 1000 {
		t.Error("samples are too much alike", count)
	}
}
