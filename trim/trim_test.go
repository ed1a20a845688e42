package trim_test

import (
	"reflect"
	"slices"
	"strings"
	"testing"

	"pewholder/api"
	"pewholder/graph"
	"pewholder/mvs"
	"pewholder/samples"
	"pewholder/trim"
	"pewholder/ver"
)

// some has newer ones that require more, less, newer and older ones; ones that are taken back, or have a Pre; and rings, also of paths alone.
const some = `a@v1.0.0 needs b@v1.0.0
	a@v1.9.0 needs b@v1.1.0
	a@v1.10.0-rc.2 needs b@v1.1.0 c@v1.0.0
	a@v1.10.0
	a/v2@v2.0.0 needs a@v1.9.0
	b@v1.0.0
	b@v1.1.0 needs c@v1.1.0
	b@v1.2.0 needs c@v1.0.0 back
	c@v1.0.0
	c@v1.1.0
	d@v0.1.0
	p@v0.1.0 needs q@v0.1.0
	p@v0.2.0
	q@v0.1.0 needs p@v0.2.0
	r@v0.1.0 needs s@v0.1.0
	s@v0.1.0 needs t@v0.1.0
	t@v0.1.0 needs d@v0.1.0 r@v0.1.0
	z@v1.0.0 needs t@v0.1.0`

func TestRoots(t *testing.T) {
	l := samples.Index(some)
	for _, c := range []struct{ sel, want string }{
		{"", ""}, {"d@v0.1.0", "d@v0.1.0"}, {"a@v1.10.0", "a@v1.10.0"}, {"b@v1.0.0 c@v1.0.0 d@v0.1.0", "b@v1.0.0 c@v1.0.0 d@v0.1.0"},

		// What another one requires goes: by one step, by several, and in front of what requires it.
		{"a@v1.0.0 b@v1.0.0", "a@v1.0.0"}, {"a@v1.9.0 b@v1.1.0 c@v1.1.0", "a@v1.9.0"}, {"a@v1.9.0 a/v2@v2.0.0 b@v1.1.0 c@v1.1.0", "a/v2@v2.0.0"},
		{"a@v1.0.0 b@v1.0.0 c@v1.1.0", "a@v1.0.0 c@v1.1.0"}, {"a@v1.9.0 b@v1.1.0 c@v1.1.0 d@v0.1.0", "a@v1.9.0 d@v0.1.0"},

		// It stays in a newer version than is required, with what goes by it.
		{"a@v1.0.0 b@v1.1.0 c@v1.1.0", "a@v1.0.0 b@v1.1.0"}, {"a@v1.0.0 b@v1.2.0 c@v1.0.0", "a@v1.0.0 b@v1.2.0"}, {"b@v1.2.0 c@v1.1.0", "b@v1.2.0 c@v1.1.0"},
		{"a@v1.0.0 b@v1.2.0 c@v1.1.0", "a@v1.0.0 b@v1.2.0 c@v1.1.0"}, {"a@v1.10.0 a/v2@v2.0.0 b@v1.1.0 c@v1.1.0", "a@v1.10.0 a/v2@v2.0.0"},

		// An older one that is reached, and not taken, has its requirements taken: by it c is there.
		{"a@v1.9.0 b@v1.2.0 c@v1.1.0", "a@v1.9.0 b@v1.2.0"}, {"a@v1.10.0-rc.2 b@v1.1.0 c@v1.1.0", "a@v1.10.0-rc.2"}, {"a@v1.10.0-rc.2 b@v1.2.0 c@v1.1.0", "a@v1.10.0-rc.2 b@v1.2.0"},
		{"a@v1.10.0-rc.2 a/v2@v2.0.0 b@v1.1.0 c@v1.1.0", "a@v1.10.0-rc.2 a/v2@v2.0.0"}, {"a@v1.10.0 b@v1.1.0 c@v1.1.0", "a@v1.10.0 b@v1.1.0"},

		// Of a ring the last one stays, if nothing else requires it: the ones ahead went while it was there.
		{"d@v0.1.0 r@v0.1.0 s@v0.1.0 t@v0.1.0", "t@v0.1.0"}, {"d@v0.1.0 r@v0.1.0 s@v0.1.0 t@v0.1.0 z@v1.0.0", "z@v1.0.0"}, {"p@v0.2.0 q@v0.1.0", "q@v0.1.0"}, {"p@v0.2.0", "p@v0.2.0"},
	} {
		if got, err := trim.Roots(l, samples.Mods(c.sel)); samples.Words(got) != c.want || err != nil {
			t.Errorf("Roots of %s: %s, %v", c.sel, samples.Words(got), err)
		}
	}
}

func TestRootsOfAnotherSelection(t *testing.T) {
	for _, sel := range []string{
		// It lacks what it requires, or has it in an older version.
		"a@v1.0.0", "b@v1.1.0", "b@v1.2.0", "b@v1.1.0 c@v1.0.0", "a@v1.9.0 b@v1.0.0 c@v1.1.0", "a@v1.9.0 b@v1.0.0", "a@v1.9.0 b@v1.2.0 c@v1.0.0", "a@v1.0.0 c@v1.0.0",
		"a/v2@v2.0.0", "a@v1.0.0 a/v2@v2.0.0 b@v1.1.0 c@v1.1.0", "q@v0.1.0", "p@v0.1.0 q@v0.1.0", "r@v0.1.0 s@v0.1.0 t@v0.1.0", "d@v0.1.0 r@v0.1.0 t@v0.1.0",

		// It is closed, yet an older version that is reached by it requires more.
		"a@v1.10.0 a/v2@v2.0.0", "a@v1.10.0-rc.2 b@v1.2.0 c@v1.0.0",

		// It is no selection.
		"d@v0.1.0 c@v1.0.0", "b@v1.0.0 a@v1.0.0", "d@v0.1.0 d@v0.1.0", "c@v1.0.0 c@v1.1.0", "c@v1.1.0 c@v1.0.0", "a/v2@v2.0.0 a@v1.9.0 b@v1.1.0 c@v1.1.0", "c@v1.0.0 d@v0.1.0 c@v1.0.0",
		"a@v1.0.0 a@v1.9.0 b@v1.1.0 c@v1.1.0", "q@v0.1.0 p@v0.2.0", strings.Repeat("d@v0.1.0 ", 200),
	} {
		if got, err := trim.Roots(samples.Index(some), samples.Mods(sel)); len(got) > 0 || err != api.ErrShape {
			t.Errorf("Roots of %s: %v, %#v", sel, got, err)
		}
	}
}

func TestSame(t *testing.T) {
	l := samples.Index(some)
	for _, c := range []struct {
		a, b string
		want bool
	}{
		{"", "", true}, {"d@v0.1.0", "", false}, {"d@v0.1.0", "d@v0.1.0", true}, {"d@v0.1.0", "c@v1.0.0", false}, {"c@v1.0.0", "c@v1.1.0", false}, {"a@v1.9.0", "a/v2@v2.0.0", false},

		// However often, in whatever order, and with what is required besides.
		{"d@v0.1.0 d@v0.1.0", "d@v0.1.0", true}, {"d@v0.1.0 c@v1.0.0", "c@v1.0.0 d@v0.1.0", true}, {"a@v1.9.0", "c@v1.1.0 b@v1.1.0 a@v1.9.0", true}, {"a@v1.9.0", "a@v1.9.0 b@v1.0.0 c@v1.0.0", true},
		{"a@v1.9.0 d@v0.1.0", "a@v1.9.0", false}, {"a@v1.9.0", "a@v1.9.0 b@v1.2.0", false}, {"a@v1.0.0", "a@v1.0.0 c@v1.0.0", false}, {"a@v1.0.0 c@v1.1.0", "a@v1.0.0 c@v1.0.0", false},

		// What is not taken still has its requirements taken.
		{"a@v1.10.0 a@v1.0.0", "a@v1.10.0", false}, {"a@v1.10.0 a@v1.0.0", "a@v1.10.0 b@v1.0.0", true}, {"a@v1.10.0 a/v2@v2.0.0", "a@v1.10.0 a/v2@v2.0.0 b@v1.0.0", true},
		{"b@v1.1.0 b@v1.2.0", "b@v1.2.0", false}, {"b@v1.1.0 b@v1.2.0", "b@v1.2.0 c@v1.1.0", true},

		{"r@v0.1.0", "s@v0.1.0", true}, {"z@v1.0.0", "t@v0.1.0", false}, {"p@v0.1.0", "q@v0.1.0", true}, {"p@v0.2.0", "q@v0.1.0", false},
		{strings.Repeat("d@v0.1.0 ", 500), "d@v0.1.0", true},
	} {
		a, b := samples.Mods(c.a), samples.Mods(c.b)
		if got, err := trim.Same(l, a, b); got != c.want || err != nil {
			t.Errorf("Same of %.80s, %s: %v, %v", c.a, c.b, got, err)
		}
		if got, err := trim.Same(l, b, a); got != c.want || err != nil {
			t.Errorf("Same of %s, %.80s: %v, %v", c.b, c.a, got, err)
		}
	}
}

func TestWrongIndexes(t *testing.T) {
	for _, c := range []struct {
		index string
		err   error
		at    int
	}{
		{samples.Lines(101), api.ErrFull, -1},
		{"a@v1.0.0\nb@", api.ErrText, 1},
		{"a@v1.0.0\nb@v1000000.0.0", api.ErrBound, 1},
		{"a@v2.0.0", api.ErrMajor, 0},
		{"a@v1.0.0\na@v1.0.0", api.ErrOrder, 1},
		{"a@v1.0.0\na@v1.0.0-rc", api.ErrOrder, 1},
		{"a@v1.0.0 needs a@v1.0.0", api.ErrShape, 0},
		{"a@v1.0.0\nb@v1.0.0 has x x", api.ErrOrder, 1},
		{"a@v1.0.0\nb@v1.0.0 needs c@v1.0.0", api.ErrNone, 1},
		{"a@v1.0.0 needs a/v2@v2.0.0", api.ErrNone, 0},
	} {
		l := samples.Index(c.index)
		// Whatever else is wrong: modules that are no entries, and lists that are no selections.
		lists := []string{"", "a@v1.0.0", "x@v1.0.0", "a@v1.0.0 a@v1.0.0", "x@v1.0.0 a@v1.0.0", "@"}
		for _, words := range lists {
			if got, err := trim.Roots(l, samples.Mods(words)); len(got) > 0 || !samples.SameFault(err, c.err, c.at) {
				t.Errorf("Roots of %s in %.80s: %v, %#v", words, c.index, got, err)
			}
			for _, others := range lists {
				if got, err := trim.Same(l, samples.Mods(words), samples.Mods(others)); got || !samples.SameFault(err, c.err, c.at) {
					t.Errorf("Same of %s, %s in %.80s: %v, %#v", words, others, c.index, got, err)
				}
			}
		}
	}
}

func TestWhatIsNoEntry(t *testing.T) {
	for _, c := range []struct {
		index, words string
		at           int
	}{
		{"", "a@v1.9.0", 0}, {some, "x@v1.0.0", 0}, {some, "@", 0}, {some, "a@v1.9.0 c@v1.0.1 @", 1}, {some, "d@v0.1.0 d@v0.1.0 A@v1.9.0", 2},
		{some, "a@v1.9.0 a@v2.0.0", 1}, {some, "b@v1.0.0 a@", 1}, {some, "a@v1.9.5", 0}, {some, "d@v0.1.0 c@v1.0.0 b@v1.0.0 x@v1.0.0", 3}, {samples.Lines(100), samples.Row(101), 100},
	} {
		l, wrong := samples.Index(c.index), samples.Mods(c.words)
		// Also where it is another selection, or none, besides.
		if got, err := trim.Roots(l, wrong); len(got) > 0 || !samples.SameFault(err, api.ErrNone, c.at) {
			t.Errorf("Roots of %s: %v, %#v", c.words, got, err)
		}
		for _, others := range []string{"", "x@v1.0.0", "@ @", strings.Repeat("x@v1.0.0 ", 9)} {
			if got, err := trim.Same(l, wrong, samples.Mods(others)); got || !samples.SameFault(err, api.ErrNone, c.at) {
				t.Errorf("Same of %s, %s: %v, %#v", c.words, others, got, err)
			}
		}
		for _, a := range [][]api.Mod{nil, wrong[:c.at]} {
			if got, err := trim.Same(l, a, wrong); got || !samples.SameFault(err, api.ErrNone, c.at) {
				t.Errorf("Same of %v, %s: %v, %#v", a, c.words, got, err)
			}
		}
	}
}

func TestNothingAtAll(t *testing.T) {
	for _, l := range [][]api.Entry{nil, {}, samples.Index(some)} {
		for _, mods := range [][]api.Mod{nil, {}} {
			roots, err := trim.Roots(l, mods)
			same, err2 := trim.Same(l, mods, nil)
			same3, err3 := trim.Same(l, []api.Mod{}, mods)
			if len(roots) > 0 || err != nil || !same || err2 != nil || !same3 || err3 != nil {
				t.Error(roots, err, same, err2, same3, err3)
			}
		}
	}
}

// full is an index of as many as there may be; each requires the one that is so many places on, if there is one, or, in a ring, from the first on again.
func full(step int, ring bool) []api.Entry {
	row := strings.Fields(samples.Row(api.MaxIndex))
	var lines []string
	for i, m := range row {
		if next := i + step; ring {
			m += " needs " + row[next%len(row)]
		} else if 0 <= next && next < len(row) {
			m += " needs " + row[next]
		}
		lines = append(lines, m)
	}
	return samples.Index(strings.Join(lines, "\n"))
}

func TestRootsOfAllThereMayBe(t *testing.T) {
	all := samples.Mods(samples.Row(api.MaxIndex))
	for _, c := range []struct {
		step int
		ring bool
		want []api.Mod
	}{
		{api.MaxIndex, false, all}, {1, false, all[:1]}, {2, false, all[:2]}, {50, false, all[:50]}, {-1, false, all[99:]}, {-50, false, all[50:]},
		{1, true, all[99:]}, {99, true, all[99:]}, {2, true, all[98:]}, {50, true, all[50:]},
	} {
		if got, err := trim.Roots(full(c.step, c.ring), all); !slices.Equal(got, c.want) || err != nil {
			t.Errorf("Roots by %d, a ring: %v: %s, %v", c.step, c.ring, samples.Words(got), err)
		}
	}
}

// eachIndex hands over many indexes of two versions of a, b and c and one of d, which may require one another, also in rings.
func eachIndex(take func([]api.Entry)) {
	ofA := []string{"", "b@v1.0.0", "b@v1.1.0 c@v1.0.0"}
	ofB := []string{"", "a@v1.9.0", "a@v1.10.0 c@v1.1.0-rc"}
	ofC := []string{"", "a@v1.9.0 d@v1.0.0", "b@v1.1.0"}
	ofD := []string{"", "a@v1.10.0", "b@v1.0.0 c@v1.1.0-rc"}
	for n := range 3 * 3 * 3 * 3 * 3 * 3 {
		take(samples.Index("a@v1.9.0 needs " + ofA[n%3] + "\na@v1.10.0 needs " + ofA[n/3%3] + "\nb@v1.0.0 needs " + ofB[n/9%3] +
			"\nb@v1.1.0 needs " + ofB[n/27%3] + " back\nc@v1.0.0\nc@v1.1.0-rc needs " + ofC[n/81%3] + "\nd@v1.0.0 needs " + ofD[n/243]))
	}
}

// versions is what is built of roots, as versions by paths.
func versions(l []api.Entry, roots []api.Mod) map[string]string {
	reach, _ := graph.Reach(l, roots)
	out := map[string]string{}
	for _, m := range reach {
		out[m.Path] = ver.Max(out[m.Path], m.Ver)
	}
	return out
}

// wantOfRoots holds all sublists against each other: of those that build the same, the one in which the first module is missing, then the second, and so on.
func wantOfRoots(l []api.Entry, sel []api.Mod) []api.Mod {
	want := versions(l, sel)
	for bits := range 1 << len(sel) {
		var some []api.Mod
		for i, m := range sel {
			if bits>>(len(sel)-1-i)&1 == 1 {
				some = append(some, m)
			}
		}
		if reflect.DeepEqual(versions(l, some), want) {
			return some
		}
	}
	return nil
}

// isBuiltOfItself tells whether a list is what is built of it, so that it has roots.
func isBuiltOfItself(l []api.Entry, sel []api.Mod) bool {
	built := versions(l, sel)
	rising := slices.IsSortedFunc(sel, func(a, b api.Mod) int { return strings.Compare(a.Path, b.Path) })
	return rising && len(built) == len(sel) && !slices.ContainsFunc(sel, func(m api.Mod) bool { return built[m.Path] != m.Ver })
}

// checkRoots holds Roots against P90 and P92; it answers how many there are (-1: none, as it is another selection).
func checkRoots(t *testing.T, l []api.Entry, sel []api.Mod) int {
	roots, err := trim.Roots(l, sel)
	if !isBuiltOfItself(l, sel) {
		if len(roots) > 0 || err != api.ErrShape {
			t.Fatalf("Roots(%v, %v): %v, %#v", l, sel, roots, err)
		}
		return -1
	}
	if err != nil || !slices.Equal(roots, wantOfRoots(l, sel)) {
		t.Fatalf("Roots(%v, %v): %v, %v", l, sel, roots, err)
	}
	if built, err := mvs.Build(l, roots); err != nil || !slices.Equal(built, sel) {
		t.Fatalf("Roots(%v, %v): %v, of which %v is built, %v", l, sel, roots, built, err)
	}
	for i, m := range roots {
		less := slices.Concat(roots[:i], roots[i+1:])
		if same, err := trim.Same(l, less, sel); same || err != nil {
			t.Fatalf("Roots(%v, %v): %v, where %v may go: %v, %v", l, sel, roots, m, same, err)
		}
	}
	return len(roots)
}

func TestNoRootMayGo(t *testing.T) {
	seen := map[int]int{}
	eachIndex(func(l []api.Entry) {
		for _, roots := range [][]api.Mod{nil, {l[0].Mod}, {l[1].Mod}, {l[3].Mod}, {l[5].Mod}, {l[6].Mod}, {l[5].Mod, l[0].Mod}, {l[0].Mod, l[2].Mod, l[4].Mod, l[6].Mod}, {l[1].Mod, l[3].Mod, l[5].Mod}} {
			built, err := mvs.Build(l, roots)
			if err != nil {
				t.Fatal(l, roots, err)
			}
			for _, sel := range [][]api.Mod{roots, built} {
				seen[checkRoots(t, l, sel)]++
			}
		}
	})
	for n := -1; n <= 4; n++ {
		if seen[n] == 0 {
			t.Errorf("seen: %v", seen)
		}
	}
}

func TestSameIsWhatIsBuilt(t *testing.T) {
	seen := map[bool]int{}
	eachIndex(func(l []api.Entry) {
		lists := [][]api.Mod{nil, {l[0].Mod}, {l[1].Mod}, {l[3].Mod, l[0].Mod}, {l[5].Mod, l[2].Mod}, {l[6].Mod}, {l[6].Mod, l[4].Mod, l[1].Mod}}
		for _, a := range lists {
			for _, b := range lists {
				want := reflect.DeepEqual(versions(l, a), versions(l, b))
				if same, err := trim.Same(l, a, b); same != want || err != nil {
					t.Fatalf("Same(%v, %v, %v): %v, %v", l, a, b, same, err)
				}
				seen[want && !slices.Equal(a, b)]++
			}
		}
	})
	if seen[true] == 0 || seen[false] == 0 {
		t.Errorf("seen: %v", seen)
	}
}

// ask hands an index and modules to each call, and writes into what they answer, once it is told.
func ask(l []api.Entry, sel, other []api.Mod) []any {
	roots, err := trim.Roots(l, sel)
	same, err2 := trim.Same(l, sel, other)
	told := []any{samples.Words(roots), err, same, err2}
	for i := range roots[:cap(roots)] {
		roots[:cap(roots)][i] = api.Mod{Path: "written", Ver: "over"}
	}
	return told
}

func TestArgumentsAreOnlyRead(t *testing.T) {
	for _, words := range []string{"", "d@v0.1.0", "c@v1.0.0 d@v0.1.0", "a@v1.9.0 b@v1.1.0 c@v1.1.0", "a@v1.9.0 a/v2@v2.0.0 b@v1.1.0 c@v1.1.0 d@v0.1.0", "d@v0.1.0 r@v0.1.0 s@v0.1.0 t@v0.1.0", "d@v0.1.0 c@v1.0.0", "x@v1.0.0"} {
		for _, others := range []string{"", "a@v1.9.0", "t@v0.1.0", "d@v0.1.0 x@v1.0.0", "d@v0.1.0 c@v1.0.0"} {
			l := samples.SpareIndex(samples.Index(some))
			sel := samples.Spare(samples.Mods(words), samples.Mods("z@v1.0.0 x@ a@v1.10.0")...)
			other := samples.Spare(samples.Mods(others), samples.Mods("x@ b@v1.2.0")...)
			before, selBefore, otherBefore := samples.Whole(l), slices.Clone(sel[:cap(sel)]), slices.Clone(other[:cap(other)])
			want := ask(samples.Index(some), samples.Mods(words), samples.Mods(others))
			for range 2 {
				if got := ask(l, sel, other); !reflect.DeepEqual(got, want) {
					t.Errorf("of %s and %s: %v, not %v", words, others, got, want)
				}
			}
			if !reflect.DeepEqual(samples.Whole(l), before) || !slices.Equal(sel[:cap(sel)], selBefore) || !slices.Equal(other[:cap(other)], otherBefore) {
				t.Errorf("of %s and %s: what was handed over has changed", words, others)
			}
		}
	}
}
