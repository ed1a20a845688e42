package place_test

import (
	"errors"
	"testing"

	"pewholder/api"
	"pewholder/place"
)

func TestFirst(t *testing.T) {
	var seen []int
	err := place.First([]string{"a", "b", "", ""}, func(i int, s string) error {
		seen = append(seen, i)
		if s == "" {
			return api.ErrText
		}
		return nil
	})
	var f *api.Fault
	if !errors.As(err, &f) || f.At != 2 || f.Err != api.ErrText {
		t.Errorf("%v", err)
	}
	if len(seen) != 3 || seen[0] != 0 || seen[1] != 1 || seen[2] != 2 {
		t.Errorf("seen: %v", seen)
	}
	if err := place.First([]int{1, 2}, func(int, int) error { return nil }); err != nil {
		t.Errorf("without a wrong one: %v", err)
	}
	if err := place.First(nil, func(int, int) error { return api.ErrText }); err != nil {
		t.Errorf("of no list: %v", err)
	}
}

func TestBare(t *testing.T) {
	for _, c := range []struct{ err, want error }{
		{nil, nil}, {api.ErrFull, api.ErrFull}, {&api.Fault{At: 3, Err: api.ErrNone}, api.ErrNone},
	} {
		if got := place.Bare(c.err); got != c.want {
			t.Errorf("%v: %v", c.err, got)
		}
	}
}
