package samples_test

import (
	"slices"
	"testing"

	"pewholder/samples"
)

func TestEachText(t *testing.T) {
	for _, c := range []struct {
		letters string
		most    int
		want    []string
	}{
		{"ab", 0, []string{""}},
		{"", 3, []string{""}},
		{"ab", 2, []string{"", "a", "b", "aa", "ab", "ba", "bb"}},
	} {
		var got []string
		samples.EachText(c.letters, c.most, func(s string) { got = append(got, s) })
		if !slices.Equal(got, c.want) {
			t.Errorf("EachText(%q, %d): %q, not %q", c.letters, c.most, got, c.want)
		}
	}
}

func TestEachList(t *testing.T) {
	var got [][]int
	samples.EachList([]int{1, 2}, 2, func(l []int) {
		got = append(got, slices.Clone(l))
		clear(l) // which the lists to come must not see
	})
	want := [][]int{nil, {1}, {2}, {1, 1}, {1, 2}, {2, 1}, {2, 2}}
	if !slices.EqualFunc(got, want, slices.Equal) {
		t.Errorf("EachList: %v, not %v", got, want)
	}
}
