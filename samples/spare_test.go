package samples_test

import (
	"reflect"
	"slices"
	"testing"

	"pewholder/samples"
)

func TestSpare(t *testing.T) {
	l := []int{1, 2}
	s := samples.Spare(l, 3, 4)
	if !slices.Equal(s, l) || !slices.Equal(s[:4], []int{1, 2, 3, 4}) {
		t.Errorf("%v, and behind it %v", s, s[:cap(s)])
	}
	s[0] = 9
	if l[0] != 1 {
		t.Error("it is the list itself")
	}
	if s := samples.Spare(nil, 3); len(s) != 0 || s[:1][0] != 3 {
		t.Errorf("behind nothing: %v", s[:1])
	}
}

func TestWholeSeesBehindEachList(t *testing.T) {
	of := samples.Index("a@v1.0.0 needs b@v1.0.0 has x\nb@v1.0.0")
	l := samples.SpareIndex(of)
	for i, e := range of {
		if e.Mod != l[i].Mod || !slices.Equal(e.Reqs, l[i].Reqs) || !slices.Equal(e.Packs, l[i].Packs) {
			t.Errorf("SpareIndex: %v, not %v", l, of)
		}
	}
	for _, write := range []func(){
		func() { l[:3][2].Back = true }, func() { l[0].Mod.Ver = "x" }, func() { l[1].Reqs[:1][0].Path = "x" }, func() { l[0].Reqs[0].Path = "x" },
		func() { l[0].Packs[:2][1] = "x" },
	} {
		before := samples.Whole(l)
		if !reflect.DeepEqual(before, samples.Whole(l)) {
			t.Error("Whole tells two things of one index")
		}
		write()
		if reflect.DeepEqual(before, samples.Whole(l)) {
			t.Errorf("Whole does not tell what was written: %v", before)
		}
	}
}
