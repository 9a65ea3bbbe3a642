package house

import (
	"crypto/sha256"
	"encoding/hex"
	"errors"
	"os"
	"testing"

	"mercator/api"
	"mercator/plain"
)

func TestGivenPackagesStayToTheByte(t *testing.T) {
	for name, want := range map[string]string{
		"../api/api.go":     "c18b2b37dfb2b2eb2795e767bbdd3147dab7a57a65dfa400e51d9df33c951158",
		"../plain/plain.go": "ea10cc3d9a8ae8cffa543f736f37e55a054e1a7947f2f8b8ea3f6800beb03ebb",
	} {
		text, err := os.ReadFile(name)
		if err != nil {
			t.Fatal(err)
		}
		sum := sha256.Sum256(text)
		if got := hex.EncodeToString(sum[:]); got != want {
			t.Error(name, got)
		}
	}
}

func TestConstants(t *testing.T) {
	got := []int{api.Turn, api.MaxPart, api.MaxText, api.MaxList, api.MaxSide, api.MaxHigh, api.MaxPlace, api.MaxMarks, api.MaxSeen, api.MaxEdits, api.MaxArcs, api.Workers, api.East, api.NorthEast, api.North, api.NorthWest, api.West, api.SouthWest, api.South, api.SouthEast, api.Sink}
	want := []int{360000000000, 4611686018427387904, 200000, 4000, 128, 1048576, 16777216, 12, 60, 2000, 60, 16, 0, 1, 2, 3, 4, 5, 6, 7, 8}
	for i := range want {
		if got[i] != want[i] {
			t.Error(i, got[i], want[i])
		}
	}
	if float64(api.Rad) != 1.7453292519943295e-11 {
		t.Error(float64(api.Rad))
	}
}

func TestErrorsAndTheirNumbers(t *testing.T) {
	for i, c := range []struct {
		err  error
		text string
	}{
		{api.ErrText, "mercator: text"}, {api.ErrBound, "mercator: bound"}, {api.ErrShape, "mercator: shape"}, {api.ErrRange, "mercator: range"}, {api.ErrName, "mercator: name"}, {api.ErrNone, "mercator: none"}, {api.ErrOrder, "mercator: order"}, {api.ErrFile, "mercator: file"},
	} {
		if c.err.Error() != c.text {
			t.Error(c.err)
		}
		if code, at := plain.Code(c.err); code != i+1 || at != -1 {
			t.Error(c.text, code, at)
		}
		fault := &api.Fault{At: 7, Err: c.err}
		if code, at := plain.Code(fault); code != i+1 || at != 7 || fault.Error() != c.text || !errors.Is(fault, c.err) {
			t.Error(c.text, code, at)
		}
	}
	if code, at := plain.Code(nil); code != 0 || at != -1 {
		t.Error(code, at)
	}
	if code, at := plain.Code(errors.New("another")); code != -1 || at != -1 {
		t.Error(code, at)
	}
}
