package mvs_test

import (
	"reflect"
	"slices"
	"strings"
	"testing"

	"pewholder/api"
	"pewholder/graph"
	"pewholder/index"
	"pewholder/mod"
	"pewholder/mvs"
	"pewholder/samples"
	"pewholder/ver"
)

// some has newer ones that require more, less and older ones, a ring of paths, and versions whose order is not that of their texts.
const some = `a@v1.9.0 needs b@v1.0.0
	a@v1.10.0-rc.2 needs b@v1.1.0 d@v1.0.0
	a@v1.10.0-rc.10 needs b@v1.1.0
	a@v1.10.0 back
	a/v2@v2.0.0 needs a@v1.10.0-rc.2
	b@v1.0.0 needs c@v1.2.0
	b@v1.1.0 needs c@v1.1.0
	b@v1.2.0
	c@v1.1.0
	c@v1.2.0 needs d@v1.0.0
	c@v1.3.0
	d@v1.0.0 has . x
	r@v0.1.0 needs s@v0.1.0
	r@v0.2.0
	s@v0.1.0 needs t@v0.1.0
	t@v0.1.0 needs r@v0.2.0`

func TestBuild(t *testing.T) {
	l := samples.Index(some)
	for _, c := range []struct{ roots, want string }{
		{"", ""},
		{"d@v1.0.0", "d@v1.0.0"},
		{"d@v1.0.0 d@v1.0.0", "d@v1.0.0"},
		{"a@v1.10.0", "a@v1.10.0"},
		{"a@v1.9.0", "a@v1.9.0 b@v1.0.0 c@v1.2.0 d@v1.0.0"},
		{"a@v1.10.0-rc.10", "a@v1.10.0-rc.10 b@v1.1.0 c@v1.1.0"},
		{"b@v1.2.0 c@v1.1.0", "b@v1.2.0 c@v1.1.0"},
		{"c@v1.1.0 b@v1.2.0", "b@v1.2.0 c@v1.1.0"},

		// What is not taken itself still has its requirements taken.
		{"b@v1.1.0 b@v1.0.0", "b@v1.1.0 c@v1.2.0 d@v1.0.0"},
		{"a@v1.9.0 a@v1.10.0-rc.2 a@v1.10.0-rc.10", "a@v1.10.0-rc.10 b@v1.1.0 c@v1.2.0 d@v1.0.0"},
		{"a@v1.10.0 a@v1.9.0", "a@v1.10.0 b@v1.0.0 c@v1.2.0 d@v1.0.0"},
		{"a/v2@v2.0.0", "a@v1.10.0-rc.2 a/v2@v2.0.0 b@v1.1.0 c@v1.1.0 d@v1.0.0"},
		{"a/v2@v2.0.0 a@v1.9.0", "a@v1.10.0-rc.2 a/v2@v2.0.0 b@v1.1.0 c@v1.2.0 d@v1.0.0"},
		{"c@v1.3.0 b@v1.0.0", "b@v1.0.0 c@v1.3.0 d@v1.0.0"},
		{"r@v0.1.0", "r@v0.2.0 s@v0.1.0 t@v0.1.0"},
		{"s@v0.1.0", "r@v0.2.0 s@v0.1.0 t@v0.1.0"},
	} {
		roots := samples.Mods(c.roots)
		if got, err := mvs.Build(l, roots); samples.Words(got) != c.want || err != nil {
			t.Errorf("Build of %s: %s, %v", c.roots, samples.Words(got), err)
		}
	}
}

func TestTheExampleOfTheDocument(t *testing.T) {
	l := samples.Index("a@v1.0.0\na@v1.1.0\na@v1.2.0\nb@v1.0.0 needs a@v1.0.0\nc@v1.0.0 needs a@v1.1.0")
	for _, roots := range []string{"b@v1.0.0 c@v1.0.0", "c@v1.0.0 b@v1.0.0"} {
		if got, err := mvs.Build(l, samples.Mods(roots)); samples.Words(got) != "a@v1.1.0 b@v1.0.0 c@v1.0.0" || err != nil {
			t.Errorf("Build of %s: %s, %v", roots, samples.Words(got), err)
		}
	}
}

func TestBuildOfAllThereMayBe(t *testing.T) {
	row := strings.Fields(samples.Row(api.MaxIndex))
	var lines []string
	for i, m := range row {
		lines = append(lines, m+" needs "+row[(i+1)%len(row)])
	}
	l := samples.Index(strings.Join(lines, "\n"))
	got, err := mvs.Build(l, samples.Mods(row[50]))
	if samples.Words(got) != strings.Join(row, " ") || err != nil {
		t.Errorf("Build: %s, %v", samples.Words(got), err)
	}
	if is, err := mvs.Closed(l, nil, got); !is || err != nil {
		t.Errorf("Closed: %v, %v", is, err)
	}
	if is, err := mvs.Closed(l, nil, got[1:]); is || err != nil {
		t.Errorf("Closed without the first: %v, %v", is, err)
	}
}

func TestClosed(t *testing.T) {
	l := samples.Index(some)
	for _, c := range []struct {
		roots, sel string
		want       bool
	}{
		{"", "", true}, {"", "d@v1.0.0", true}, {"d@v1.0.0", "", false}, {"d@v1.0.0", "d@v1.0.0", true}, {"d@v1.0.0 d@v1.0.0", "d@v1.0.0", true},

		// A root: in its version, in a newer one, in an older one, not at all.
		{"c@v1.1.0", "c@v1.1.0", true}, {"c@v1.1.0", "c@v1.3.0", true}, {"c@v1.3.0", "c@v1.1.0", false}, {"c@v1.1.0 c@v1.3.0", "c@v1.1.0", false},
		{"c@v1.3.0 c@v1.1.0", "c@v1.1.0", false}, {"a@v1.9.0", "a@v1.10.0", true}, {"a@v1.10.0", "a@v1.10.0-rc.10", false},
		{"a@v1.10.0-rc.2", "a@v1.10.0", true}, {"a/v2@v2.0.0", "a@v1.10.0", false}, {"d@v1.0.0", "c@v1.1.0", false},

		// A requirement of the selection's own, likewise.
		{"", "b@v1.0.0", false}, {"", "b@v1.0.0 c@v1.1.0", false}, {"", "b@v1.1.0 c@v1.1.0", true}, {"", "b@v1.0.0 c@v1.3.0", true},
		{"", "b@v1.0.0 c@v1.2.0", false}, {"", "b@v1.0.0 c@v1.2.0 d@v1.0.0", true}, {"", "a@v1.9.0 b@v1.2.0", true},
		{"", "a@v1.10.0-rc.2 b@v1.2.0", false}, {"", "a@v1.10.0-rc.2 b@v1.2.0 d@v1.0.0", true}, {"", "a@v1.10.0-rc.2 d@v1.0.0", false},
		{"", "r@v0.1.0 s@v0.1.0 t@v0.1.0", false}, {"", "r@v0.2.0 s@v0.1.0 t@v0.1.0", true}, {"", "s@v0.1.0 t@v0.1.0", false}, {"", "r@v0.2.0", true},

		// What a root requires is not asked for, if the selection has a newer one that does not require it.
		{"a@v1.9.0", "a@v1.10.0", true}, {"b@v1.0.0", "b@v1.2.0", true}, {"b@v1.0.0", "b@v1.1.0 c@v1.1.0", true},
		{"a@v1.9.0 c@v1.1.0", "a@v1.9.0 b@v1.0.0 c@v1.2.0 d@v1.0.0 r@v0.2.0", true},
	} {
		if got, err := mvs.Closed(l, samples.Mods(c.roots), samples.Mods(c.sel)); got != c.want || err != nil {
			t.Errorf("Closed of %s in %s: %v, %v", c.roots, c.sel, got, err)
		}
	}
}

// wrong inputs have the error that is told of an index and roots, and its place (-1: none).
var wrong = []struct {
	index, roots string
	err          error
	at           int
}{
	{samples.Lines(101), "r000@v1.0.0", api.ErrFull, -1},
	{samples.Lines(101), "x@v1.0.0", api.ErrFull, -1},
	{"a@v1.0.0\nb@", "a@v1.0.0", api.ErrText, 1},
	{"a@v1.0.0\nb@v1000000.0.0", "x@v1.0.0", api.ErrBound, 1},
	{"a@v2.0.0", "", api.ErrMajor, 0},
	{"a@v1.0.0\na@v1.0.0", "a@v1.0.0", api.ErrOrder, 1},
	{"a@v1.0.0 needs a@v1.0.0", "a@v1.0.0", api.ErrShape, 0},
	{"a@v1.0.0\nb@v1.0.0 needs c@v1.0.0", "a@v1.0.0 x@v1.0.0", api.ErrNone, 1},
	{"a@v1.0.0 needs b@v1.0.0", "a@v1.0.0 a@v1.0.0 x@v1.0.0", api.ErrNone, 0},

	{"", "a@v1.0.0", api.ErrNone, 0},
	{"a@v1.0.0", "x@v1.0.0", api.ErrNone, 0},
	{"a@v1.0.0", "a@v1.0.0 a@v1.0.1 @", api.ErrNone, 1},
	{"a@v1.0.0", "a@v1.0.0 a@v1.0.0 A@v2.0.0", api.ErrNone, 2},
	{samples.Lines(100), samples.Row(101), api.ErrNone, 100},
}

func TestWrongIndexesAndRoots(t *testing.T) {
	for _, c := range wrong {
		l, roots := samples.Index(c.index), samples.Mods(c.roots)
		if got, err := mvs.Build(l, roots); len(got) > 0 || !samples.SameFault(err, c.err, c.at) {
			t.Errorf("Build of %s in %.80s: %v, %#v", c.roots, c.index, got, err)
		}
		// Whatever the selection is: right, of no entries, or out of order, too.
		for _, sel := range []string{"", "a@v1.0.0", "x@v1.0.0", "x@v1.0.0 a@v1.0.0", "a@v1.0.0 a@v1.0.0", "@"} {
			if got, err := mvs.Closed(l, roots, samples.Mods(sel)); got || !samples.SameFault(err, c.err, c.at) {
				t.Errorf("Closed of %s, %s in %.80s: %v, %#v", c.roots, sel, c.index, got, err)
			}
		}
	}
}

func TestWrongSelections(t *testing.T) {
	l := samples.Index(some)
	for _, c := range []struct {
		roots, sel string
		err        error
		at         int
	}{
		{"", "x@v1.0.0", api.ErrNone, 0}, {"", "@", api.ErrNone, 0}, {"d@v1.0.0", "a@v1.9.0 b@v1.0.1 @", api.ErrNone, 1}, {"d@v1.0.0", "a@v2.0.0", api.ErrNone, 0},
		{"x@v1.0.0", "@", api.ErrNone, 0}, {"d@v1.0.0 x@v1.0.0", "@", api.ErrNone, 1}, {"", "d@v1.0.0 c@v1.1.0 x@v1.0.0", api.ErrNone, 2},
		{"", "d@v1.0.0 d@v1.0.0 d@", api.ErrNone, 2},

		{"", "d@v1.0.0 c@v1.1.0", api.ErrOrder, -1}, {"", "d@v1.0.0 d@v1.0.0", api.ErrOrder, -1}, {"", "c@v1.1.0 c@v1.2.0 d@v1.0.0", api.ErrOrder, -1},
		{"", "c@v1.2.0 c@v1.1.0 d@v1.0.0", api.ErrOrder, -1}, {"", "a/v2@v2.0.0 a@v1.10.0", api.ErrOrder, -1}, {"", "a@v1.9.0 d@v1.0.0 c@v1.1.0 b@v1.0.0", api.ErrOrder, -1},
		{"d@v1.0.0", "c@v1.1.0 c@v1.1.0", api.ErrOrder, -1}, {"", "c@v1.1.0 d@v1.0.0 c@v1.2.0", api.ErrOrder, -1},
	} {
		if got, err := mvs.Closed(l, samples.Mods(c.roots), samples.Mods(c.sel)); got || !samples.SameFault(err, c.err, c.at) {
			t.Errorf("Closed of %s in %s: %v, %#v", c.roots, c.sel, got, err)
		}
	}
}

func TestIsSelection(t *testing.T) {
	for words, want := range map[string]bool{
		"": true, "a@v1.0.0": true, "a@v1.0.0 b@v1.0.0 c@v0.1.0": true, "a@v1.0.0 a-b@v1.0.0 a/v10@v10.0.0 a/v2@v2.0.0 a0@v1.0.0": true, samples.Row(200): true,
		"a@v1.0.0 a@v1.0.0": false, "a@v1.0.0 a@v1.1.0": false, "a@v1.1.0 a@v1.0.0": false, "b@v1.0.0 a@v1.0.0": false, "a@v1.0.0 c@v1.0.0 b@v1.0.0": false,
		"b@v1.0.0 a@v1.0.0 c@v1.0.0": false, "a@v1.0.0 b@v1.0.0 a@v1.0.0": false, "a/v2@v2.0.0 a/v10@v10.0.0": false,

		// Modules that are not right.
		"@": true, "@ A@x a@v2.0.0": true, "@ @": false, "a@x a@y": false, "a@v1.0.0 A@v1.0.0": false,
	} {
		if mvs.IsSelection(samples.Mods(words)) != want {
			t.Errorf("IsSelection of %s: not %v", words, want)
		}
	}
}

func TestNothingAtAll(t *testing.T) {
	built, err := mvs.Build(nil, nil)
	is, err2 := mvs.Closed(nil, nil, nil)
	if len(built) > 0 || err != nil || !is || err2 != nil {
		t.Error(built, err, is, err2)
	}
	if is, err := mvs.Closed([]api.Entry{}, []api.Mod{}, []api.Mod{}); !is || err != nil {
		t.Error(is, err)
	}
	if !mvs.Under(nil, nil) || !mvs.Under(nil, []api.Mod{}) || !mvs.Under([]api.Mod{}, nil) || len(mvs.Join(nil, nil)) > 0 {
		t.Error("Under and Join of nothing")
	}
}

func TestUnder(t *testing.T) {
	for _, c := range []struct {
		a, b string
		want bool
	}{
		{"", "a@v1.0.0", true}, {"", "@", true}, {"a@v1.0.0", "", false}, {"a@v1.0.0", "a@v1.0.0", true}, {"a@v1.0.0", "b@v1.0.0", false},
		{"a@v1.9.0", "a@v1.10.0", true}, {"a@v1.10.0", "a@v1.9.0", false}, {"a@v1.0.0-rc.10", "a@v1.0.0", true}, {"a@v1.0.0", "a@v1.0.0-rc.10", false},
		{"a@v1.0.0-rc.2", "a@v1.0.0-rc.10", true}, {"a@v1.0.0-rc.10", "a@v1.0.0-rc.2", false}, {"a/v2@v2.0.0", "a@v1.0.0", false}, {"a@v1.0.0", "a/v2@v2.0.0", false},
		{"a@v1.0.0 b@v1.0.0", "b@v1.0.0 a@v1.0.0", true}, {"b@v1.0.0 a@v1.0.0", "a@v1.0.0 b@v1.1.0 c@v1.0.0", true},
		{"a@v1.0.0 b@v1.1.0", "a@v1.0.0 b@v1.0.0", false}, {"a@v1.1.0 b@v1.0.0", "a@v1.0.0 b@v1.0.0", false}, {"a@v1.0.0 b@v1.0.0 c@v1.0.0", "a@v1.0.0 b@v1.0.0", false},

		// Of b the first of a path counts; of a all of them.
		{"a@v1.1.0", "a@v1.0.0 a@v1.1.0", false}, {"a@v1.1.0", "a@v1.1.0 a@v1.0.0", true}, {"a@v1.1.0", "b@v1.0.0 a@v1.2.0 a@v1.0.0", true},
		{"a@v1.0.0 a@v1.2.0", "a@v1.1.0", false}, {"a@v1.2.0 a@v1.0.0", "a@v1.1.0", false}, {"a@v1.0.0 a@v1.1.0", "a@v1.1.0", true},
		{"a@v1.1.0", "a@x a@v1.0.0", true}, {"a@v1.1.0", "a@v1.0.0 a@x", false},

		// Versions that are none are as if alike; paths that are none are texts.
		{"a@x", "a@v1.0.0", true}, {"a@v1.0.0", "a@x", true}, {"a@x", "a@y", true}, {"a@y", "a@x", true}, {"a@", "a@", true}, {"a@x", "b@x", false}, {"a@x", "", false},
		{"a@v1.0.1000000", "a@v1.0.0", true}, {"@v1.1.0", "@v1.0.0", false}, {"@v1.0.0", "@v1.1.0", true}, {"@", "@", true}, {"@", "a@v1.0.0", false},
		{"A@v1.1.0", "A@v1.0.0", false}, {"A@v1.0.0", "a@v1.0.0", false}, {"a@v3.0.0", "a@v2.0.0", false}, {"a@v2.0.0", "a@v3.0.0", true},
	} {
		if got := mvs.Under(samples.Mods(c.a), samples.Mods(c.b)); got != c.want {
			t.Errorf("Under(%s, %s): %v", c.a, c.b, got)
		}
	}
}

func TestJoin(t *testing.T) {
	for _, c := range []struct{ a, b, want string }{
		{"a@v1.0.0", "", "a@v1.0.0"}, {"a@v1.0.0", "a@v1.0.0", "a@v1.0.0"}, {"b@v1.0.0", "a@v1.0.0", "a@v1.0.0 b@v1.0.0"},
		{"a@v1.9.0", "a@v1.10.0", "a@v1.10.0"}, {"a@v1.0.0-rc.10", "a@v1.0.0-rc.2", "a@v1.0.0-rc.10"}, {"a@v1.0.0", "a@v1.0.0-rc", "a@v1.0.0"},
		{"a@v1.0.0 c@v1.1.0 d@v0.1.0", "a@v1.1.0 b@v0.1.0 c@v1.0.0", "a@v1.1.0 b@v0.1.0 c@v1.1.0 d@v0.1.0"},
		{"a@v1.0.0", "a/v2@v2.0.0", "a@v1.0.0 a/v2@v2.0.0"}, {"a0@v1.0.0 a/v2@v2.0.0 a/v10@v10.0.0", "a-b@v1.0.0 a@v1.0.0", "a@v1.0.0 a-b@v1.0.0 a/v10@v10.0.0 a/v2@v2.0.0 a0@v1.0.0"},

		// Lists that are no selections.
		{"c@v1.0.0 a@v1.0.0 c@v1.2.0", "b@v1.0.0 c@v1.1.0", "a@v1.0.0 b@v1.0.0 c@v1.2.0"}, {"a@v1.0.0 a@v1.0.0 a@v1.1.0 a@v0.1.0", "", "a@v1.1.0"},

		// Modules that are not right.
		{"@", "", ""}, {"a@", "@v1.0.0", ""}, {"a@x", "a@v1.0.0", "a@v1.0.0"}, {"a@v1.0.0", "a@v2.0.0", "a@v1.0.0"}, {"a@v2.0.0", "b@v1.0.0", "b@v1.0.0"},
		{"a/v2@v1.0.0", "a/v2@v2.0.0", "a/v2@v2.0.0"}, {"A@v1.0.0 b@v1.0.1000000", "b@v1.0.0 elevenchars@v1.0.0", "b@v1.0.0"}, {"a/v1@v1.0.0", "a/v1@v1.1.0", ""},
		{"x@v3.0.0 c@v1.0.0 b@", "b@ a@v1.0.0 c@v9.0.0", "a@v1.0.0 c@v1.0.0"},
	} {
		a, b := samples.Mods(c.a), samples.Mods(c.b)
		if got := samples.Words(mvs.Join(a, b)); got != c.want {
			t.Errorf("Join(%s, %s): %s", c.a, c.b, got)
		}
		if got := samples.Words(mvs.Join(b, a)); got != c.want {
			t.Errorf("Join(%s, %s): %s", c.b, c.a, got)
		}
	}
}

// wantOfJoin goes through the modules one by one: one that is greater takes the place of another.
func wantOfJoin(l []api.Mod) []api.Mod {
	best := map[string]string{}
	for _, m := range l {
		if mod.Check(m) == nil {
			best[m.Path] = ver.Max(best[m.Path], m.Ver)
		}
	}
	var out []api.Mod
	for path, v := range best {
		out = append(out, api.Mod{Path: path, Ver: v})
	}
	slices.SortFunc(out, func(a, b api.Mod) int { return strings.Compare(a.Path, b.Path) })
	return out
}

func TestJoinOfManyLists(t *testing.T) {
	of := samples.Mods("a@v1.9.0 a@v1.10.0-rc a@v1.10.0 a@v2.0.0 b@v0.1.0 b@v0.2.0 c@x")
	samples.EachList(of, 4, func(l []api.Mod) {
		want := wantOfJoin(l)
		for cut := range len(l) + 1 {
			got := mvs.Join(l[:cut], l[cut:])
			if !slices.Equal(got, want) {
				t.Fatalf("Join(%v, %v): %v", l[:cut], l[cut:], got)
			}
			if right := slices.DeleteFunc(slices.Clone(l), func(m api.Mod) bool { return mod.Check(m) != nil }); !mvs.Under(right, got) {
				t.Fatalf("Under(%v, %v) is false", right, got)
			}
		}
	})
}

// eachIndex hands over many indexes of two versions of a, two of b and one of c, which may require one another, with whether newer ones require no less.
func eachIndex(take func(l []api.Entry, rises bool)) {
	ofA := []string{"", "b@v1.0.0", "b@v1.1.0", "c@v1.0.0", "b@v1.0.0 c@v1.0.0", "b@v1.1.0 c@v1.0.0"}
	ofB := []string{"", "a@v1.9.0", "a@v1.10.0", "c@v1.0.0", "a@v1.9.0 c@v1.0.0", "a@v1.10.0 c@v1.0.0"}
	ofC := []string{"", "a@v1.10.0", "a@v1.9.0 b@v1.1.0"}
	for _, oldA := range ofA {
		for _, newA := range ofA {
			for _, oldB := range ofB {
				for _, newB := range ofB {
					for _, c := range ofC {
						l := samples.Index("a@v1.9.0 needs " + oldA + "\na@v1.10.0 needs " + newA + "\nb@v1.0.0 needs " + oldB + "\nb@v1.1.0 needs " + newB + "\nc@v1.0.0 needs " + c)
						take(l, requiresNoLess(l[0], l[1]) && requiresNoLess(l[2], l[3]))
					}
				}
			}
		}
	}
}

func requiresNoLess(older, newer api.Entry) bool {
	for _, m := range older.Reqs {
		if !slices.ContainsFunc(newer.Reqs, func(n api.Mod) bool { return n == m || mod.Ahead(m, n) && n.Path == m.Path }) {
			return false
		}
	}
	return true
}

// selections are all that there are of the modules of eachIndex.
func selections() [][]api.Mod {
	var all [][]api.Mod
	for _, a := range []string{"", "a@v1.9.0 ", "a@v1.10.0 "} {
		for _, b := range []string{"", "b@v1.0.0 ", "b@v1.1.0 "} {
			for _, c := range []string{"", "c@v1.0.0"} {
				all = append(all, samples.Mods(a+b+c))
			}
		}
	}
	return all
}

// wantOfClosed asks each root and each requirement, one by one.
func wantOfClosed(l []api.Entry, roots, sel []api.Mod) bool {
	asked := slices.Clone(roots)
	for _, m := range sel {
		asked = append(asked, l[index.Find(l, m)].Reqs...)
	}
	for _, m := range asked {
		if !slices.ContainsFunc(sel, func(x api.Mod) bool { return x.Path == m.Path && ver.Max(x.Ver, m.Ver) == x.Ver }) {
			return false
		}
	}
	return true
}

// checkBuilt holds what is built against all selections; it answers how many of them are closed.
func checkBuilt(t *testing.T, l []api.Entry, rises bool, roots []api.Mod, all [][]api.Mod) int {
	built, err := mvs.Build(l, roots)
	reach, _ := graph.Reach(l, roots)
	if err != nil || !slices.Equal(built, wantOfJoin(reach)) {
		t.Fatalf("Build(%v, %v): %v, %v", l, roots, built, err)
	}
	if is, err := mvs.Closed(l, roots, built); !is || err != nil {
		t.Fatalf("Closed(%v, %v, %v): %v, %v", l, roots, built, is, err)
	}
	closed := 0
	for _, sel := range all {
		is, err := mvs.Closed(l, roots, sel)
		if is != wantOfClosed(l, roots, sel) || err != nil {
			t.Fatalf("Closed(%v, %v, %v): %v, %v", l, roots, sel, is, err)
		}
		if is {
			closed++
		}
		if is && rises && !mvs.Under(built, sel) {
			t.Fatalf("%v, built of %v in %v, is not under %v, which is closed", built, roots, l, sel)
		}
	}
	return closed
}

func TestWhatIsBuiltIsClosedAndTheLeast(t *testing.T) {
	all := selections()
	rootLists := []string{"", "a@v1.9.0", "a@v1.10.0", "b@v1.0.0", "c@v1.0.0", "b@v1.1.0 a@v1.9.0", "a@v1.9.0 a@v1.10.0"}
	seen := map[bool]int{}
	eachIndex(func(l []api.Entry, rises bool) {
		seen[rises]++
		for _, words := range rootLists {
			if n := checkBuilt(t, l, rises, samples.Mods(words), all); n == 0 {
				t.Fatalf("nothing is closed for %s in %v", words, l)
			}
		}
	})
	if seen[true] == 0 || seen[false] == 0 {
		t.Errorf("seen: %v", seen)
	}
}

// Where a newer one requires less, what is built may have more than a selection that is closed.
func TestWhereNewerOnesRequireLess(t *testing.T) {
	l := samples.Index("a@v1.0.0 needs b@v1.0.0\na@v1.1.0\nb@v1.0.0\nc@v1.0.0 needs a@v1.1.0")
	roots, least := samples.Mods("a@v1.0.0 c@v1.0.0"), samples.Mods("a@v1.1.0 c@v1.0.0")
	built, err := mvs.Build(l, roots)
	if samples.Words(built) != "a@v1.1.0 b@v1.0.0 c@v1.0.0" || err != nil {
		t.Errorf("Build: %s, %v", samples.Words(built), err)
	}
	if is, err := mvs.Closed(l, roots, least); !is || err != nil || mvs.Under(built, least) || !mvs.Under(least, built) {
		t.Errorf("Closed: %v, %v", is, err)
	}
}

func TestArgumentsAreOnlyRead(t *testing.T) {
	for _, words := range []string{"", "r@v0.1.0 a@v1.9.0", "d@v1.0.0 d@v1.0.0 c@v1.1.0", "x@v1.0.0 d@v1.0.0", "b@v1.1.0 c@v1.1.0", "b@x b@v1.0.0 a@v1.9.0"} {
		l := samples.SpareIndex(samples.Index(some))
		mods := samples.Spare(samples.Mods(words), samples.Mods("b@v1.2.0 x@ c@v1.3.0 d@v1.0.0")...)
		before, modsBefore := samples.Whole(l), slices.Clone(mods[:cap(mods)])
		for range 2 {
			built, err := mvs.Build(l, mods)
			if want, wantErr := mvs.Build(samples.Index(some), samples.Mods(words)); !slices.Equal(built, want) || !reflect.DeepEqual(err, wantErr) {
				t.Errorf("Build of %s: %v, %v", words, built, err)
			}
			is, err := mvs.Closed(l, mods, mods)
			if want, wantErr := mvs.Closed(samples.Index(some), samples.Mods(words), samples.Mods(words)); is != want || !reflect.DeepEqual(err, wantErr) {
				t.Errorf("Closed of %s: %v, %v", words, is, err)
			}
			if mvs.Under(samples.Mods("c@v1.3.0"), mods) {
				t.Error("Under reads behind the list")
			}
			for _, answer := range [][]api.Mod{built, mvs.Join(mods, nil), mvs.Join(nil, mods), mvs.Join(mods, mods)} {
				for i := range answer[:cap(answer)] {
					answer[:cap(answer)][i] = api.Mod{Path: "written", Ver: "over"}
				}
			}
			if got := mvs.Join(mods, nil); !slices.Equal(got, wantOfJoin(samples.Mods(words))) {
				t.Errorf("Join of %s: %v", words, got)
			}
		}
		if after := samples.Whole(l); !reflect.DeepEqual(after, before) || !slices.Equal(mods[:cap(mods)], modsBefore) {
			t.Errorf("it was %v, %v, and is %v, %v", before, modsBefore, after, mods[:cap(mods)])
		}
	}
}
