package samples_test

import (
	"slices"
	"testing"

	"pewholder/samples"
)

func TestEachText(t *testing.T) {
	for _, c := range []struct {
		letters string
		most    int
		want    []string
	}{
		{"ab", 0, []string{""}},
		{"", 3, []string{""}},
		{"ab", 2, []string{"", "a", "b", "aa", "ab", "ba", "bb"}},
	} {
		var got []string
		samples.EachText(c.letters, c.most, func(s string) { got = append(got, s) })
		if !slices.Equal(got, c.want) {
			t.Errorf("EachText(%q, %d): %q, not %q", c.letters, c.most, got, c.want)
		}
	}
}
