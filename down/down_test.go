package down_test

import (
	"reflect"
	"slices"
	"strconv"
	"strings"
	"testing"

	"pewholder/api"
	"pewholder/down"
	"pewholder/graph"
	"pewholder/index"
	"pewholder/mod"
	"pewholder/mvs"
	"pewholder/samples"
	"pewholder/ver"
)

// some has newer ones that require more, less, newer and older ones; ones that are taken back, or have a Pre; and a ring.
const some = `a@v1.0.0
	a@v1.9.0 needs b@v1.0.0
	a@v1.10.0-rc.2 needs b@v1.1.0
	a@v1.10.0-rc.10 needs c@v1.0.0
	a@v1.10.0 needs b@v1.1.0 c@v1.0.0
	a@v1.11.0 back
	a/v2@v2.0.0 needs a@v1.9.0
	a/v2@v2.1.0 needs b@v1.0.0
	b@v1.0.0
	b@v1.1.0 needs d@v1.0.0
	b@v1.2.0 needs d@v0.1.0
	c@v1.0.0
	d@v0.1.0
	d@v1.0.0
	r@v0.1.0 needs s@v0.1.0
	r@v0.2.0 needs c@v1.0.0 s@v0.2.0
	s@v0.1.0 needs r@v0.1.0
	s@v0.2.0 needs r@v0.2.0
	t@v1.0.0 needs r@v0.2.0`

func TestCheckTakesCaps(t *testing.T) {
	for _, words := range []string{
		"", "a@none", "a@v1.0.0", "a@v0.0.0-0", "a@v999999.999999.999999-a.b.c.d.e", "a@none b@v1.0.0 c@none", samples.Row(1000),

		// Paths rise by their bytes, whatever the versions do.
		"a@v1.1.0 a-b@v1.0.0 a/v10@v1.0.0 a/v2@none a0@v0.1.0", "none@none", "v1@v1.0.0", "a/b/c/d/e@none", "tenletters@none",

		// A cap is no module: its version's major may be any.
		"a@v2.0.0", "a@v7.0.0 b@v0.0.0", "a/v2@v1.0.0", "a/v2@v3.0.0-rc", "a/v2@none",
	} {
		if err := down.Check(samples.Mods(words)); err != nil {
			t.Errorf("Check of %.80s: %#v", words, err)
		}
	}
}

// wrongCaps are lists of no caps, with what is wrong, and where.
var wrongCaps = []struct {
	words string
	err   error
	at    int
}{
	{"@none", api.ErrText, 0}, {"A@none", api.ErrText, 0}, {"a//b@v1.0.0", api.ErrText, 0}, {"a@none b/...@none", api.ErrText, 1}, {"a@none ..@v1.0.0", api.ErrText, 1},
	{"elevenchars@none", api.ErrBound, 0}, {"a/b/c/d/e/f@v1.0.0", api.ErrBound, 0}, {"a@none a/elevenchars@none", api.ErrBound, 1},
	{"a/v1@none", api.ErrMajor, 0}, {"a/v0@v0.1.0", api.ErrMajor, 0}, {"a/v02@none", api.ErrMajor, 0}, {"a@none a/v1000000@none", api.ErrMajor, 1},

	{"a@", api.ErrText, 0}, {"a@v1", api.ErrText, 0}, {"a@v1.0", api.ErrText, 0}, {"a@latest", api.ErrText, 0}, {"a@None", api.ErrText, 0}, {"a@nones", api.ErrText, 0},
	{"a@non", api.ErrText, 0}, {"a@<v1.0.0", api.ErrText, 0}, {"a@v1.0.0 b@v01.0.0", api.ErrText, 1}, {"a@none@none", api.ErrText, 0}, {"a@v1.0.0-none.", api.ErrText, 0},
	{"a@v1.0.1000000", api.ErrBound, 0}, {"a@v1.0.0-a.b.c.d.e.f", api.ErrBound, 0}, {"a@none b@v1000000.0.0", api.ErrBound, 1},

	{"a@none a@none", api.ErrOrder, 1}, {"a@v1.0.0 a@v1.1.0", api.ErrOrder, 1}, {"b@none a@none", api.ErrOrder, 1}, {"a@none c@none b@none", api.ErrOrder, 2},
	{"a@none b@none a@none", api.ErrOrder, 2}, {"a/v2@none a/v10@none", api.ErrOrder, 1}, {samples.Row(1000) + " r999@none", api.ErrOrder, 1000},

	// Several things are wrong: of the first cap, and of it the path's error, then the version's, then the order's.
	{"A@x", api.ErrText, 0}, {"elevenchars@x", api.ErrBound, 0}, {"a/v1@x", api.ErrMajor, 0}, {"a/v1@v1000000.0.0", api.ErrMajor, 0},
	{"b@none a/v1@none", api.ErrMajor, 1}, {"b@none a@x", api.ErrText, 1}, {"b@none a@v1000000.0.0", api.ErrBound, 1}, {"b@none a@none A@none", api.ErrOrder, 1},
	{"b@v1000000.0.0 a/v1@none", api.ErrBound, 0}, {"a@none a@none b@x", api.ErrOrder, 1}, {"a@x a@none", api.ErrText, 0},
}

func TestWrongCaps(t *testing.T) {
	for _, c := range wrongCaps {
		caps := samples.Mods(c.words)
		if err := down.Check(caps); !samples.SameFault(err, c.err, c.at) {
			t.Errorf("Check of %.80s: %#v", c.words, err)
		}
		for _, text := range []string{"", some} {
			l := samples.Index(text)
			if bad, err := down.Bad(l, caps); len(bad) > 0 || !samples.SameFault(err, c.err, c.at) {
				t.Errorf("Bad of %.80s: %v, %#v", c.words, bad, err)
			}
			// Whatever the roots are: right, or no entries.
			for _, roots := range []string{"", "a@v1.9.0", "x@v1.0.0", "@"} {
				if got, err := down.To(l, samples.Mods(roots), caps); len(got) > 0 || !samples.SameFault(err, c.err, c.at) {
					t.Errorf("To of %s, %.80s: %v, %#v", roots, c.words, got, err)
				}
			}
		}
	}
}

func TestWrongIndexes(t *testing.T) {
	for _, c := range []struct {
		index string
		err   error
		at    int
	}{
		{samples.Lines(101), api.ErrFull, -1},
		{"a@v1.0.0\nb@", api.ErrText, 1},
		{"a@none", api.ErrText, 0},
		{"a@v1.0.0\nb@v1000000.0.0", api.ErrBound, 1},
		{"a@v2.0.0", api.ErrMajor, 0},
		{"a@v1.0.0\na@v1.0.0", api.ErrOrder, 1},
		{"a@v1.0.0\na@v1.0.0-rc", api.ErrOrder, 1},
		{"a@v1.0.0 needs a@v1.0.0", api.ErrShape, 0},
		{"a@v1.0.0\nb@v1.0.0 has x x", api.ErrOrder, 1},
		{"a@v1.0.0\nb@v1.0.0 needs c@v1.0.0", api.ErrNone, 1},
		{"a@v1.0.0 needs a/v2@v2.0.0", api.ErrNone, 0},
	} {
		l := samples.Index(c.index)
		// Whatever else is wrong: the caps, and roots that are no entries.
		for _, words := range []string{"", "a@none", "a@v1.0.0", "A@x", "b@none a@none", "a@x"} {
			caps := samples.Mods(words)
			if bad, err := down.Bad(l, caps); len(bad) > 0 || !samples.SameFault(err, c.err, c.at) {
				t.Errorf("Bad of %s in %.80s: %v, %#v", words, c.index, bad, err)
			}
			for _, roots := range []string{"", "a@v1.0.0", "x@v1.0.0", "@"} {
				if got, err := down.To(l, samples.Mods(roots), caps); len(got) > 0 || !samples.SameFault(err, c.err, c.at) {
					t.Errorf("To of %s, %s in %.80s: %v, %#v", roots, words, c.index, got, err)
				}
			}
		}
	}
}

func TestWrongRoots(t *testing.T) {
	for _, c := range []struct {
		index, roots string
		at           int
	}{
		{"", "a@v1.9.0", 0}, {some, "x@v1.0.0", 0}, {some, "@", 0}, {some, "a@none", 0}, {some, "a@v1.9.0 c@v1.0.1 @", 1}, {some, "a@v1.9.0 a@v1.9.0 A@v1.9.0", 2},
		{some, "a@v1.9.0 a@v2.0.0", 1}, {some, "b@v1.0.0 a@", 1}, {some, "a@v1.9.5", 0}, {samples.Lines(100), samples.Row(101), 100},
	} {
		// Also where a cap takes every version of the wrong root's path away.
		for _, caps := range []string{"", "a@none", "a@v1.0.0 c@none x@none", "q@v1.0.0"} {
			if got, err := down.To(samples.Index(c.index), samples.Mods(c.roots), samples.Mods(caps)); len(got) > 0 || !samples.SameFault(err, api.ErrNone, c.at) {
				t.Errorf("To of %s, %s: %v, %#v", c.roots, caps, got, err)
			}
		}
	}
}

func TestNothingAtAll(t *testing.T) {
	for _, l := range [][]api.Entry{nil, {}} {
		for _, mods := range [][]api.Mod{nil, {}} {
			bad, err := down.Bad(l, mods)
			to, err2 := down.To(l, mods, mods)
			if err3 := down.Check(mods); len(bad)+len(to) > 0 || err != nil || err2 != nil || err3 != nil {
				t.Error(bad, err, to, err2, err3)
			}
		}
	}
	if bad, err := down.Bad(nil, samples.Mods("a@none")); len(bad) > 0 || err != nil {
		t.Error(bad, err)
	}
	if to, err := down.To(samples.Index(some), nil, samples.Mods("a@none")); len(to) > 0 || err != nil {
		t.Error(to, err)
	}
}

// badWords are the modules of the entries that are bad.
func badWords(l []api.Entry, bad []bool) string {
	var mods []api.Mod
	for i, e := range l {
		if bad[i] {
			mods = append(mods, e.Mod)
		}
	}
	return samples.Words(mods)
}

func TestBad(t *testing.T) {
	l := samples.Index(some)
	for _, c := range []struct{ caps, want string }{
		{"", ""}, {"q@none", ""}, {"q@v1.0.0", ""}, {"aa@none", ""}, {"a/v3@none", ""},

		// Greater than the cap: the cap itself is not, whether there is an entry of it or not.
		{"a@v1.11.0", ""}, {"a@v7.0.0", ""}, {"a@v1.10.0", "a@v1.11.0"}, {"a@v1.10.1", "a@v1.11.0"}, {"a@v1.10.0-rc.10", "a@v1.10.0 a@v1.11.0"},
		{"a@v1.10.0-rc.9", "a@v1.10.0-rc.10 a@v1.10.0 a@v1.11.0"}, {"a@v1.9.0", "a@v1.10.0-rc.2 a@v1.10.0-rc.10 a@v1.10.0 a@v1.11.0"},
		{"a/v2@v2.0.0", "a/v2@v2.1.0"}, {"a/v2@v1.99.0", "a/v2@v2.0.0 a/v2@v2.1.0"}, {"a/v2@v3.0.0", ""}, {"a/v2@none", "a/v2@v2.0.0 a/v2@v2.1.0"},

		// What requires a bad one is bad, and what requires that, and so on; a newer one may be right again.
		{"a@v1.0.0", "a@v1.9.0 a@v1.10.0-rc.2 a@v1.10.0-rc.10 a@v1.10.0 a@v1.11.0 a/v2@v2.0.0"},
		{"d@v0.1.0", "a@v1.10.0-rc.2 a@v1.10.0 b@v1.1.0 d@v1.0.0"},
		{"d@none", "a@v1.10.0-rc.2 a@v1.10.0 b@v1.1.0 b@v1.2.0 d@v0.1.0 d@v1.0.0"},
		{"b@v1.0.5", "a@v1.10.0-rc.2 a@v1.10.0 b@v1.1.0 b@v1.2.0"},
		{"b@none", "a@v1.9.0 a@v1.10.0-rc.2 a@v1.10.0 a/v2@v2.0.0 a/v2@v2.1.0 b@v1.0.0 b@v1.1.0 b@v1.2.0"},

		// A ring is bad by any of it, and by what it requires; by nothing else.
		{"r@v0.1.0", "r@v0.2.0 s@v0.2.0 t@v1.0.0"}, {"s@v0.1.0", "r@v0.2.0 s@v0.2.0 t@v1.0.0"}, {"s@none", "r@v0.1.0 r@v0.2.0 s@v0.1.0 s@v0.2.0 t@v1.0.0"},
		{"c@none", "a@v1.10.0-rc.10 a@v1.10.0 c@v1.0.0 r@v0.2.0 s@v0.2.0 t@v1.0.0"}, {"r@v0.2.0 s@v0.2.0", ""}, {"t@none", "t@v1.0.0"},

		// Several caps.
		{"a@v1.10.0 d@v0.1.0 t@none", "a@v1.10.0-rc.2 a@v1.10.0 a@v1.11.0 b@v1.1.0 d@v1.0.0 t@v1.0.0"},
	} {
		bad, err := down.Bad(l, samples.Mods(c.caps))
		if len(bad) != len(l) || err != nil {
			t.Fatalf("Bad of %s: %v, %v", c.caps, bad, err)
		}
		if got := badWords(l, bad); got != c.want {
			t.Errorf("Bad of %s: %s", c.caps, got)
		}
	}
}

func TestTo(t *testing.T) {
	l := samples.Index(some)
	for _, c := range []struct{ roots, caps, want string }{
		// Nothing is bad: the roots, each once, in their order.
		{"c@v1.0.0", "", "c@v1.0.0"}, {"d@v1.0.0 a@v1.9.0 d@v1.0.0", "", "a@v1.9.0 d@v1.0.0"}, {"a@v1.10.0 a@v1.9.0 a@v1.10.0-rc.10 a@v1.10.0-rc.2", "", "a@v1.9.0 a@v1.10.0-rc.2 a@v1.10.0-rc.10 a@v1.10.0"},
		{"a/v2@v2.0.0 a@v1.0.0", "q@none", "a@v1.0.0 a/v2@v2.0.0"}, {"a@v1.9.0", "a@v1.9.0 b@v1.0.0", "a@v1.9.0"}, {"a@v1.11.0", "b@none", "a@v1.11.0"},

		// Not the cap is taken, but the greatest that there is, with a Pre, taken back, or not.
		{"a@v1.11.0", "a@v1.10.5", "a@v1.10.0"}, {"a@v1.10.0", "a@v1.10.0-rc.9", "a@v1.10.0-rc.2"}, {"a@v1.11.0", "a@v1.11.0 c@none", "a@v1.11.0"}, {"a/v2@v2.1.0", "a/v2@v2.0.9", "a/v2@v2.0.0"},
		{"a@v1.11.0", "a@v0.9.0", ""}, {"a@v1.11.0 c@v1.0.0", "a@none", "c@v1.0.0"}, {"a/v2@v2.1.0", "a/v2@v1.0.0", ""}, {"a@v1.0.0", "a@v1.0.0-rc", ""},

		// One step down, several, and past ones that are bad by what they require.
		{"a@v1.10.0", "c@none", "a@v1.10.0-rc.2"}, {"a@v1.10.0-rc.10", "c@none", "a@v1.10.0-rc.2"}, {"a@v1.10.0", "b@v1.0.0", "a@v1.10.0-rc.10"}, {"a@v1.10.0", "b@v1.0.0 c@none", "a@v1.9.0"},
		{"a@v1.10.0", "b@none c@none", "a@v1.0.0"}, {"a@v1.9.0", "b@none", "a@v1.0.0"}, {"b@v1.1.0", "d@v0.1.0", "b@v1.0.0"}, {"a@v1.10.0-rc.2", "d@none", "a@v1.9.0"},

		// Never a greater one than the root, though it be right; nor another path's.
		{"a@v1.10.0", "a@v1.11.0 b@v1.0.0 c@none", "a@v1.9.0"}, {"b@v1.1.0", "b@v1.2.0 d@v0.1.0", "b@v1.0.0"}, {"b@v1.2.0", "b@v1.2.0 d@v0.1.0", "b@v1.2.0"},
		{"a/v2@v2.1.0", "b@none", ""}, {"a/v2@v2.0.0", "a@v1.0.0", ""}, {"b@v1.0.0", "b@none", ""}, {"c@v1.0.0 d@v1.0.0", "c@none d@none", ""},

		// Two roots come down to one, or one to another; each goes by itself.
		{"b@v1.1.0 b@v1.0.0", "d@v0.1.0", "b@v1.0.0"}, {"a@v1.10.0 a@v1.10.0-rc.2 c@v1.0.0", "c@none", "a@v1.10.0-rc.2"}, {"b@v1.2.0 b@v1.1.0", "d@v0.1.0", "b@v1.0.0 b@v1.2.0"},
		{"d@v0.1.0 c@v1.0.0 a@v1.0.0", "c@none", "a@v1.0.0 d@v0.1.0"}, {"a@v1.11.0 a@v1.10.0", "d@none", "a@v1.10.0-rc.10 a@v1.11.0"},

		// Rings.
		{"r@v0.2.0", "c@none", "r@v0.1.0"}, {"s@v0.2.0", "r@v0.1.0", "s@v0.1.0"}, {"r@v0.2.0 s@v0.2.0", "s@none", ""}, {"t@v1.0.0 r@v0.2.0", "s@v0.1.0", "r@v0.1.0"}, {"r@v0.2.0", "t@none", "r@v0.2.0"},
	} {
		if got, err := down.To(l, samples.Mods(c.roots), samples.Mods(c.caps)); samples.Words(got) != c.want || err != nil {
			t.Errorf("To of %s, %s: %s, %v", c.roots, c.caps, samples.Words(got), err)
		}
	}
}

// chain is a full index: each requires the next one by that step, so that what is bad at one end is bad up to the other.
func chain(step int) []api.Entry {
	name := func(i int) string { return "p" + strconv.Itoa(100+i) + "@v1.0.0" }
	var lines []string
	for i := range api.MaxIndex {
		line := name(i)
		if next := i + step; 0 <= next && next < api.MaxIndex {
			line += " needs " + name(next)
		}
		lines = append(lines, line)
	}
	return samples.Index(strings.Join(lines, "\n"))
}

func TestBadOfTheLongestChains(t *testing.T) {
	for _, step := range []int{1, -1} {
		l := chain(step)
		for i, e := range l {
			bad, err := down.Bad(l, []api.Mod{{Path: e.Mod.Path, Ver: "none"}})
			if len(bad) != len(l) || err != nil {
				t.Fatalf("Bad at %d by %d: %v, %v", i, step, bad, err)
			}
			for k := range l {
				if bad[k] != ((i-k)*step >= 0) {
					t.Errorf("Bad at %d by %d: %d is %v", i, step, k, bad[k])
				}
			}
		}
	}
}

func TestToOfManyVersionsAndRoots(t *testing.T) {
	var lines []string
	for i := range api.MaxIndex {
		lines = append(lines, "a@v1."+strconv.Itoa(i)+".0")
	}
	l := samples.Index(strings.Join(lines, "\n"))
	for i := range l {
		got, err := down.To(l, []api.Mod{l[len(l)-1].Mod}, []api.Mod{l[i].Mod})
		if samples.Words(got) != lines[i] || err != nil {
			t.Errorf("To %s: %s, %v", lines[i], samples.Words(got), err)
		}
	}
	// More roots than there are entries.
	roots := samples.Mods(strings.Repeat(strings.Join(lines, " ")+" ", 20))
	got, err := down.To(l, roots, samples.Mods("a@v1.9.0"))
	if samples.Words(got) != strings.Join(lines[:10], " ") || err != nil {
		t.Errorf("To of many roots: %s, %v", samples.Words(got), err)
	}
}

// eachIndex hands over many indexes of three versions of a, two of b and two of c, which may require one another, also in rings.
func eachIndex(take func([]api.Entry)) {
	ofA := []string{"", "b@v1.0.0", "b@v1.1.0 c@v1.0.0"}
	ofB := []string{"", "a@v1.9.0", "a@v1.10.0 c@v1.1.0-rc"}
	ofC := []string{"", "a@v1.10.0-rc", "b@v1.1.0"}
	for n := range 3 * 3 * 3 * 3 * 3 * 3 {
		take(samples.Index("a@v1.9.0 needs " + ofA[n%3] + "\na@v1.10.0-rc needs " + ofA[n/3%3] + "\na@v1.10.0 needs " + ofA[n/9%3] +
			"\nb@v1.0.0 needs " + ofB[n/27%3] + "\nb@v1.1.0 needs " + ofB[n/81%3] + " back\nc@v1.0.0\nc@v1.1.0-rc needs " + ofC[n/243]))
	}
}

func isAbove(caps []api.Mod, m api.Mod) bool {
	return slices.ContainsFunc(caps, func(c api.Mod) bool {
		return c.Path == m.Path && (c.Ver == "none" || ver.Less(c.Ver, m.Ver))
	})
}

// wantOfBad asks of each entry by itself whether anything that it reaches is above a cap.
func wantOfBad(l []api.Entry, caps []api.Mod) []bool {
	var out []bool
	for _, e := range l {
		reach, _ := graph.Reach(l, []api.Mod{e.Mod})
		out = append(out, slices.ContainsFunc(reach, func(m api.Mod) bool { return isAbove(caps, m) }))
	}
	return out
}

// wantOfTo takes, of each root, the last of all that may be taken for it.
func wantOfTo(l []api.Entry, roots []api.Mod, bad []bool) []api.Mod {
	var out []api.Mod
	for _, root := range roots {
		var may []api.Mod
		for i, e := range l {
			if !bad[i] && e.Mod.Path == root.Path && !ver.Less(root.Ver, e.Mod.Ver) {
				may = append(may, e.Mod)
			}
		}
		if len(may) > 0 && !slices.Contains(out, may[len(may)-1]) {
			out = append(out, may[len(may)-1])
		}
	}
	return inOrder(out)
}

// inOrder is a new list in the order of mod.Ahead, each once.
func inOrder(l []api.Mod) []api.Mod {
	out := slices.Clone(l)
	slices.SortFunc(out, func(a, b api.Mod) int {
		switch {
		case mod.Ahead(a, b):
			return -1
		case mod.Ahead(b, a):
			return 1
		}
		return 0
	})
	return slices.Compact(out)
}

// checkTo holds To against P81 and P82; it answers whether anything that the roots reach was bad.
func checkTo(t *testing.T, l []api.Entry, roots, caps []api.Mod, bad []bool) bool {
	to, err := down.To(l, roots, caps)
	if err != nil || !slices.Equal(to, wantOfTo(l, roots, bad)) {
		t.Fatalf("To(%v, %v, %v): %v, %v", l, roots, caps, to, err)
	}
	built, err := mvs.Build(l, to)
	if err != nil || slices.ContainsFunc(built, func(m api.Mod) bool { return isAbove(caps, m) }) {
		t.Fatalf("To(%v, %v, %v): %v, of which %v is built, %v", l, roots, caps, to, built, err)
	}
	if again, err := down.To(l, to, caps); err != nil || !slices.Equal(again, to) {
		t.Fatalf("To(%v, %v, %v): %v, %v, of what To answers", l, to, caps, again, err)
	}
	reach, _ := graph.Reach(l, roots)
	anyBad := slices.ContainsFunc(reach, func(m api.Mod) bool { return bad[index.Find(l, m)] })
	if !anyBad && !slices.Equal(to, inOrder(roots)) {
		t.Fatalf("To(%v, %v, %v): %v, though nothing is bad", l, roots, caps, to)
	}
	return anyBad
}

func TestWhatIsBuiltHasNothingAboveACap(t *testing.T) {
	capLists := []string{"", "a@none", "a@v1.9.0", "a@v1.10.0-rc", "b@v1.0.0", "b@none", "c@v1.0.0", "c@none", "a@v1.9.5 b@v1.0.0", "a@v1.10.0 b@v1.1.0 c@v1.0.9", "a/v2@none q@none"}
	seen := map[bool]int{}
	eachIndex(func(l []api.Entry) {
		for _, words := range capLists {
			caps := samples.Mods(words)
			bad, err := down.Bad(l, caps)
			if err != nil || !slices.Equal(bad, wantOfBad(l, caps)) {
				t.Fatalf("Bad(%v, %s): %v, %v", l, words, bad, err)
			}
			for _, roots := range [][]api.Mod{nil, {l[0].Mod}, {l[2].Mod}, {l[4].Mod}, {l[6].Mod}, {l[6].Mod, l[1].Mod, l[3].Mod}, {l[2].Mod, l[0].Mod, l[2].Mod}} {
				seen[checkTo(t, l, roots, caps, bad)]++
			}
		}
	})
	if seen[true] == 0 || seen[false] == 0 {
		t.Errorf("seen: %v", seen)
	}
}

// ask hands an index, roots and caps to each call, and writes into what they answer, once it is told.
func ask(l []api.Entry, roots, caps []api.Mod) []any {
	check := down.Check(caps)
	bad, err := down.Bad(l, caps)
	to, err2 := down.To(l, roots, caps)
	told := []any{check, slices.Clone(bad), err, samples.Words(to), err2}
	for i := range bad[:cap(bad)] {
		bad[:cap(bad)][i] = !bad[:cap(bad)][i]
	}
	for i := range to[:cap(to)] {
		to[:cap(to)][i] = api.Mod{Path: "written", Ver: "over"}
	}
	return told
}

func TestArgumentsAreOnlyRead(t *testing.T) {
	for _, rootWords := range []string{"", "r@v0.2.0 a@v1.10.0", "b@v1.1.0 b@v1.0.0", "c@v1.0.0 c@v1.0.0", "x@v1.0.0 a@v1.9.0"} {
		for _, capWords := range []string{"", "b@v1.0.0", "c@none d@v0.1.0", "d@none c@none", "a@x"} {
			l := samples.SpareIndex(samples.Index(some))
			roots := samples.Spare(samples.Mods(rootWords), samples.Mods("t@v1.0.0 x@ d@v1.0.0")...)
			caps := samples.Spare(samples.Mods(capWords), samples.Mods("s@none x@ a@none")...)
			before, rootsBefore, capsBefore := samples.Whole(l), slices.Clone(roots[:cap(roots)]), slices.Clone(caps[:cap(caps)])
			want := ask(samples.Index(some), samples.Mods(rootWords), samples.Mods(capWords))
			for range 2 {
				if got := ask(l, roots, caps); !reflect.DeepEqual(got, want) {
					t.Errorf("of %s and %s: %v, not %v", rootWords, capWords, got, want)
				}
			}
			if !reflect.DeepEqual(samples.Whole(l), before) || !slices.Equal(roots[:cap(roots)], rootsBefore) || !slices.Equal(caps[:cap(caps)], capsBefore) {
				t.Errorf("of %s and %s: what was handed over has changed", rootWords, capWords)
			}
		}
	}
}
