package samples_test

import (
	"reflect"
	"testing"

	"pewholder/api"
	"pewholder/samples"
)

func TestMods(t *testing.T) {
	got := samples.Mods(" a@v1.0.0  x @ @v1 ")
	want := []api.Mod{{Path: "a", Ver: "v1.0.0"}, {Path: "x"}, {}, {Ver: "v1"}}
	if !reflect.DeepEqual(got, want) {
		t.Errorf("%v, not %v", got, want)
	}
	if s := samples.Words(got); s != "a@v1.0.0 x@ @ @v1" {
		t.Error(s)
	}
	if s := samples.Words(nil); s != "" {
		t.Error(s)
	}
	if s := samples.Row(3); s != "r000@v1.0.0 r001@v1.0.0 r002@v1.0.0" {
		t.Error(s)
	}
	if s := samples.Lines(2); s != "r000@v1.0.0\nr001@v1.0.0" {
		t.Error(s)
	}
}

func TestIndex(t *testing.T) {
	got := samples.Index("a@v1.0.0\n\nb@v0.1.0 needs a@v1.0.0 c@v1.0.0 has . x/y back\nc@v1.0.0 has .\nd@v1.0.0 back")
	want := []api.Entry{
		{Mod: samples.Mod("a@v1.0.0")},
		{Mod: samples.Mod("b@v0.1.0"), Reqs: samples.Mods("a@v1.0.0 c@v1.0.0"), Packs: []string{".", "x/y"}, Back: true},
		{Mod: samples.Mod("c@v1.0.0"), Packs: []string{"."}},
		{Mod: samples.Mod("d@v1.0.0"), Back: true},
	}
	if !reflect.DeepEqual(got, want) {
		t.Errorf("%v, not %v", got, want)
	}
}

func TestSameFault(t *testing.T) {
	fault := &api.Fault{At: 2, Err: api.ErrFull}
	for _, c := range []struct {
		err, want error
		at        int
		same      bool
	}{
		{nil, nil, -1, true}, {api.ErrFull, api.ErrFull, -1, true}, {fault, api.ErrFull, 2, true}, {nil, api.ErrFull, -1, false},
		{api.ErrFull, nil, -1, false}, {api.ErrFull, api.ErrFull, 2, false}, {fault, api.ErrFull, 1, false}, {fault, api.ErrFull, -1, false},
		{fault, api.ErrNone, 2, false}, {fault, nil, -1, false}, {&api.Fault{At: 2, Err: fault}, api.ErrFull, 2, false},
	} {
		if samples.SameFault(c.err, c.want, c.at) != c.same {
			t.Errorf("%#v, %v at %d: not %v", c.err, c.want, c.at, c.same)
		}
	}
}
