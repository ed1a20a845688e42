// Package everywhere tests what holds in all packages: the numbers and texts of package api, and how plain tells errors.
package everywhere

import (
	"errors"
	"testing"

	"pewholder/api"
	"pewholder/plain"
)

func TestBounds(t *testing.T) {
	for i, c := range [][2]int{
		{api.MaxNum, 999999}, {api.MaxPre, 5}, {api.MaxPart, 8}, {api.MaxElem, 10}, {api.MaxElems, 5}, {api.MaxReqs, 20},
		{api.MaxIndex, 100}, {api.MaxPacks, 10}, {api.MaxText, 8000}, {api.MaxArgs, 10}, {api.MaxLines, 80}, {api.Workers, 16},
	} {
		if c[0] != c[1] {
			t.Errorf("bound %d: %d, not %d", i, c[0], c[1])
		}
	}
}

func TestErrors(t *testing.T) {
	for i, c := range []struct {
		err  error
		text string
	}{
		{api.ErrText, "pewholder: text"}, {api.ErrBound, "pewholder: bound"}, {api.ErrShape, "pewholder: shape"},
		{api.ErrMajor, "pewholder: major"}, {api.ErrNone, "pewholder: none"}, {api.ErrExist, "pewholder: exist"},
		{api.ErrFull, "pewholder: full"}, {api.ErrOrder, "pewholder: order"}, {api.ErrClash, "pewholder: clash"},
		{api.ErrSum, "pewholder: sum"},
	} {
		if c.err.Error() != c.text {
			t.Errorf("%q, not %q", c.err, c.text)
		}
		if code, at := plain.Code(c.err); code != i+1 || at != -1 {
			t.Errorf("%q: %d, %d", c.text, code, at)
		}
		fault := &api.Fault{At: 7, Err: c.err}
		if code, at := plain.Code(fault); code != i+1 || at != 7 || fault.Error() != c.text || !errors.Is(fault, c.err) {
			t.Errorf("%q at 7: %d, %d", c.text, code, at)
		}
	}
	if code, at := plain.Code(nil); code != 0 || at != -1 {
		t.Errorf("no error: %d, %d", code, at)
	}
}
