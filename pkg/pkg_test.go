package pkg_test

import (
	"fmt"
	"reflect"
	"slices"
	"strings"
	"testing"

	"pewholder/api"
	"pewholder/index"
	"pewholder/mod"
	"pewholder/pkg"
	"pewholder/samples"
)

// some has packages that several modules have, of paths inside one another; versions that have other packages than the latest; ones that are taken back, or have a Pre; and modules without any package.
const some = `a@v1.0.0 has . b b/c
	a@v1.9.0 has -x . b/c q
	a@v1.10.0 has . b
	a@v1.11.0-rc.1 has . b b/c q
	a@v1.12.0 has z back
	a-b@v0.1.0 has . c
	a/b@v0.1.0 has . c v1
	a/b@v0.2.0 has c
	a/b/c@v1.0.0
	a/b/c@v1.1.0 has . d back
	a/b/v2@v2.0.0 has . c v2
	d@v1.0.0-rc.1 has x
	d@v1.0.0-rc.2 has .x y back
	e@v1.0.0 has . back
	e@v1.1.0 has x back
	n@v1.0.0`

func TestOf(t *testing.T) {
	for _, c := range []struct{ sel, p, want string }{
		{"a@v1.0.0", "a", "a@v1.0.0"}, {"a@v1.0.0", "a/b", "a@v1.0.0"}, {"a@v1.0.0", "a/b/c", "a@v1.0.0"}, {"a@v1.9.0", "a/-x", "a@v1.9.0"}, {"a@v1.9.0", "a/q", "a@v1.9.0"},
		{"d@v1.0.0-rc.1", "d/x", "d@v1.0.0-rc.1"}, {"d@v1.0.0-rc.2", "d/.x", "d@v1.0.0-rc.2"}, {"n@v1.0.0 a-b@v0.1.0", "a-b/c", "a-b@v0.1.0"},

		// The longest path of those that have it, wherever it stands.
		{"a@v1.0.0 a/b@v0.1.0", "a/b", "a/b@v0.1.0"}, {"a/b@v0.1.0 a@v1.0.0", "a/b", "a/b@v0.1.0"}, {"a@v1.0.0 a/b@v0.1.0 a/b/c@v1.1.0", "a/b/c", "a/b/c@v1.1.0"},
		{"a/b@v0.1.0 a/b/c@v1.1.0 a@v1.0.0", "a/b/c", "a/b/c@v1.1.0"}, {"a@v1.0.0 a/b/c@v1.1.0 a/b@v0.1.0", "a/b/c", "a/b/c@v1.1.0"}, {"a/b/c@v1.1.0 a/b@v0.1.0 a@v1.0.0", "a", "a@v1.0.0"},

		// A longer one that has not got it does not count.
		{"a@v1.0.0 a/b@v0.2.0", "a/b", "a@v1.0.0"}, {"a@v1.0.0 a/b@v0.2.0 a/b/c@v1.0.0", "a/b/c", "a/b@v0.2.0"}, {"a/b/c@v1.0.0 a@v1.0.0", "a/b/c", "a@v1.0.0"}, {"a@v1.10.0 a/b@v0.2.0 a/b/c@v1.1.0", "a/b/c/d", "a/b/c@v1.1.0"},

		// The suffix is the module's, or is none: also where a module's path may not end so.
		{"a/b@v0.1.0 a/b/v2@v2.0.0", "a/b/v2", "a/b/v2@v2.0.0"}, {"a/b/v2@v2.0.0", "a/b/v2/c", "a/b/v2@v2.0.0"}, {"a/b@v0.1.0 a/b/v2@v2.0.0", "a/b/v1", "a/b@v0.1.0"}, {"a/b/v2@v2.0.0", "a/b/v2/v2", "a/b/v2@v2.0.0"},

		// Of one path in several versions: the first one that has it.
		{"a@v1.0.0 a@v1.10.0", "a/b", "a@v1.0.0"}, {"a@v1.10.0 a@v1.0.0", "a/b", "a@v1.10.0"}, {"a@v1.9.0 a@v1.10.0 a@v1.0.0", "a/b", "a@v1.10.0"}, {"a@v1.12.0 a@v1.10.0 a@v1.9.0 a@v1.11.0-rc.1", "a/b/c", "a@v1.9.0"},
		{"a@v1.10.0 a@v1.10.0", "a", "a@v1.10.0"}, {"a@v1.10.0 a/b@v0.2.0 a@v1.0.0 a/b@v0.1.0", "a/b/c", "a/b@v0.2.0"}, {"a@v1.10.0 a/b@v0.2.0 a@v1.0.0 a/b@v0.1.0", "a/b", "a/b@v0.1.0"},
	} {
		if got, err := pkg.Of(samples.Index(some), samples.Mods(c.sel), c.p); got != samples.Mod(c.want) || err != nil {
			t.Errorf("Of %s in %s: %v, %v", c.p, c.sel, got, err)
		}
	}
}

func TestOfWhereNoneHasIt(t *testing.T) {
	for _, c := range []struct{ sel, p string }{
		{"", "a"}, {"n@v1.0.0", "n"}, {"a@v1.0.0", "a/q"}, {"a@v1.0.0", "b"}, {"a@v1.0.0", "b/c"}, {"a@v1.0.0", "a/b/c/d"}, {"a@v1.0.0", "a-b"}, {"a@v1.0.0", "a-b/c"}, {"a@v1.0.0", "ab"}, {"a@v1.0.0", "a/bb"}, {"a@v1.0.0", "x/a"},
		{"a@v1.12.0", "a"}, {"a@v1.12.0", "a/b"}, {"a/b@v0.2.0", "a/b"}, {"a/b@v0.2.0", "a"}, {"a/b@v0.2.0", "c"}, {"a-b@v0.1.0", "a/b/c"}, {"a/b/c@v1.0.0", "a/b/c"}, {"a/b@v0.1.0", "a/b/v2"}, {"a/b/v2@v2.0.0", "a/b"}, {"a/b/v2@v2.0.0", "a/b/c"}, {"a/b/v2@v2.0.0", "a/b/v2/v1"},
		{"e@v1.1.0", "e"}, {"d@v1.0.0-rc.2", "d"}, {"d@v1.0.0-rc.2", "d/x"}, {"d@v1.0.0-rc.2", "d.x"}, {"a@v1.0.0", "a/v1"}, {"a@v1.0.0", "a/v0"}, {"a@v1.0.0", "a/v02"}, {"a@v1.0.0", "a/v1000000"},
	} {
		if got, err := pkg.Of(samples.Index(some), samples.Mods(c.sel), c.p); got != (api.Mod{}) || err != api.ErrNone {
			t.Errorf("Of %s in %s: %v, %#v", c.p, c.sel, got, err)
		}
	}
}

// wrongTexts are no paths of packages.
var wrongTexts = []struct {
	p   string
	err error
}{
	{"", api.ErrText}, {".", api.ErrText}, {"a/.", api.ErrText}, {"./a", api.ErrText}, {"a/", api.ErrText}, {"/a", api.ErrText}, {"a//b", api.ErrText}, {"A", api.ErrText}, {"a/B", api.ErrText}, {"a@v1.0.0", api.ErrText}, {"a/...", api.ErrText}, {"a b", api.ErrText}, {"a\xff", api.ErrText}, {"A/v1", api.ErrText},
	{"a/b/c/d/e/f", api.ErrBound}, {"elevenchars", api.ErrBound}, {"a/elevenchars", api.ErrBound}, {"a/b/c/d/e/v1", api.ErrBound}, {"elevenchars/v1", api.ErrBound}, {"a/v1000000000", api.ErrBound},
}

func TestOfTextsThatAreNoPaths(t *testing.T) {
	for _, c := range wrongTexts {
		// Also where a module is none of the index.
		for _, sel := range []string{"", "a@v1.0.0", "x@v1.0.0", "a@v1.0.0 @"} {
			if got, err := pkg.Of(samples.Index(some), samples.Mods(sel), c.p); got != (api.Mod{}) || err != c.err {
				t.Errorf("Of %q in %s: %v, %#v", c.p, sel, got, err)
			}
		}
	}
}

func TestAll(t *testing.T) {
	for _, c := range []struct{ sel, want string }{
		{"", ""}, {"n@v1.0.0", ""}, {"a/b/c@v1.0.0 n@v1.0.0", ""}, {"a@v1.0.0", "a a/b a/b/c"}, {"a@v1.9.0", "a a/-x a/b/c a/q"}, {"a@v1.12.0", "a/z"}, {"a/b@v0.2.0", "a/b/c"}, {"e@v1.0.0", "e"}, {"d@v1.0.0-rc.2", "d/.x d/y"},
		{"a/b@v0.1.0", "a/b a/b/c a/b/v1"}, {"a/b/v2@v2.0.0", "a/b/v2 a/b/v2/c a/b/v2/v2"},

		// Of several: by their bytes, whichever module they are of, and each once.
		{"a@v1.0.0 a-b@v0.1.0", "a a-b a-b/c a/b a/b/c"}, {"e@v1.0.0 d@v1.0.0-rc.1 a@v1.10.0", "a a/b d/x e"}, {"a@v1.0.0 a/b@v0.1.0 a/b/c@v1.1.0", "a a/b a/b/c a/b/c/d a/b/v1"}, {"a/b/c@v1.1.0 a/b@v0.2.0", "a/b/c a/b/c/d"},
		{"a@v1.0.0 a@v1.9.0 a@v1.0.0", "a a/-x a/b a/b/c a/q"}, {"a/b/v2@v2.0.0 a/b@v0.1.0", "a/b a/b/c a/b/v1 a/b/v2 a/b/v2/c a/b/v2/v2"},
	} {
		if got, err := pkg.All(samples.Index(some), samples.Mods(c.sel)); strings.Join(got, " ") != c.want || err != nil {
			t.Errorf("All of %s: %s, %v", c.sel, got, err)
		}
	}
}

func TestWho(t *testing.T) {
	for p, want := range map[string]string{
		// Only the latest of a path counts: not one with a Pre, nor one that is taken back, if there is another one.
		"a": "a@v1.10.0", "a/b": "a@v1.10.0", "a/q": "", "a/z": "", "a/-x": "", "a-b": "a-b@v0.1.0", "a/b/v1": "", "d/x": "d@v1.0.0-rc.1", "d/y": "", "d/.x": "", "e": "", "e/x": "e@v1.1.0", "n": "", "a/b/c/d": "", "a/b/c": "a/b@v0.2.0",
		"a/b/v2": "a/b/v2@v2.0.0", "a/b/v2/c": "a/b/v2@v2.0.0", "a/b/v2/v2": "a/b/v2@v2.0.0",

		// What is no path is had by none, and told so.
		"": "", ".": "", "a/.": "", "a/": "", "/a": "", "A": "", "a/...": "", "a@v1.10.0": "", "elevenchars": "", "a/b/c/d/e/f": "", "\xff": "",
	} {
		if got, err := pkg.Who(samples.Index(some), p); samples.Words(got) != want || err != nil {
			t.Errorf("Who has %q: %s, %v", p, samples.Words(got), err)
		}
	}
}

func TestWhoIsOfTheLongestPathsFirst(t *testing.T) {
	nested := samples.Index("a@v1.0.0 has . b b/c\na-b@v1.0.0 has .\na/b@v1.0.0 has . c c/d\na/b@v1.1.0 has . c c/d/e\na/b/c@v1.0.0 has . d d/e\na/b/c/d@v1.0.0 has . e\na/b/c/d/e@v1.0.0 has . f\nb/c@v1.0.0 has .")
	for p, want := range map[string]string{
		"a": "a@v1.0.0", "a/b": "a/b@v1.1.0 a@v1.0.0", "a/b/c": "a/b/c@v1.0.0 a/b@v1.1.0 a@v1.0.0", "a/b/c/d": "a/b/c/d@v1.0.0 a/b/c@v1.0.0", "a/b/c/d/e": "a/b/c/d/e@v1.0.0 a/b/c/d@v1.0.0 a/b/c@v1.0.0 a/b@v1.1.0",
		// A package may be longer than a path.
		"a/b/c/d/e/f": "a/b/c/d/e@v1.0.0",
	} {
		if got, err := pkg.Who(nested, p); samples.Words(got) != want || err != nil {
			t.Errorf("Who has %s: %s, %v", p, samples.Words(got), err)
		}
	}
}

func TestWrongIndexes(t *testing.T) {
	for _, c := range []struct {
		index string
		err   error
		at    int
	}{
		{samples.Lines(101), api.ErrFull, -1},
		{"a@v1.0.0\nb@", api.ErrText, 1},
		{"a@v1.0.0\nb@v1000000.0.0", api.ErrBound, 1},
		{"a@v2.0.0 has .", api.ErrMajor, 0},
		{"a@v1.0.0\na@v1.0.0", api.ErrOrder, 1},
		{"a@v1.0.0 needs a@v1.0.0", api.ErrShape, 0},
		{"a@v1.0.0 has b/v1", api.ErrText, 0},
		{"a@v1.0.0\nb@v1.0.0 has x x", api.ErrOrder, 1},
		{"a@v1.0.0\nb@v1.0.0 needs c@v1.0.0", api.ErrNone, 1},
	} {
		l := samples.Index(c.index)
		// Whatever else is wrong: modules that are no entries, and texts that are no paths.
		for _, p := range []string{"a", "", "A", "elevenchars", "a/v1", "q"} {
			for _, sel := range []string{"", "a@v1.0.0", "x@v1.0.0", "@"} {
				if got, err := pkg.Of(l, samples.Mods(sel), p); got != (api.Mod{}) || !samples.SameFault(err, c.err, c.at) {
					t.Errorf("Of %q in %s in %.80s: %v, %#v", p, sel, c.index, got, err)
				}
				if got, err := pkg.All(l, samples.Mods(sel)); len(got) > 0 || !samples.SameFault(err, c.err, c.at) {
					t.Errorf("All of %s in %.80s: %v, %#v", sel, c.index, got, err)
				}
			}
			if got, err := pkg.Who(l, p); len(got) > 0 || !samples.SameFault(err, c.err, c.at) {
				t.Errorf("Who has %q in %.80s: %v, %#v", p, c.index, got, err)
			}
		}
	}
}

func TestWhatIsNoEntry(t *testing.T) {
	for _, c := range []struct {
		index, sel string
		at         int
	}{
		{"", "a@v1.0.0", 0}, {some, "x@v1.0.0", 0}, {some, "@", 0}, {some, "a@v1.0.0 a@v1.0.1 @", 1}, {some, "a@v1.0.0 a@v1.0.0 A@v1.0.0", 2}, {some, "a@v1.0.0 a@v2.0.0", 1}, {some, "a/b/v2@v2.0.0 a/b/v3@v3.0.0", 1}, {some, "a@", 0}, {some, "a/b/c/d@v1.0.0", 0},
		{samples.Lines(100), samples.Row(101), 100},
	} {
		l, sel := samples.Index(c.index), samples.Mods(c.sel)
		// Whether another one has the package or not.
		for _, p := range []string{"a", "a/b", "q", "a/v1", "x"} {
			if got, err := pkg.Of(l, sel, p); got != (api.Mod{}) || !samples.SameFault(err, api.ErrNone, c.at) {
				t.Errorf("Of %s in %.80s: %v, %#v", p, c.sel, got, err)
			}
		}
		if got, err := pkg.All(l, sel); len(got) > 0 || !samples.SameFault(err, api.ErrNone, c.at) {
			t.Errorf("All of %.80s: %v, %#v", c.sel, got, err)
		}
	}
}

func TestNothingAtAll(t *testing.T) {
	for _, l := range [][]api.Entry{nil, {}} {
		for _, sel := range [][]api.Mod{nil, {}} {
			of, err := pkg.Of(l, sel, "a")
			all, err2 := pkg.All(l, sel)
			who, err3 := pkg.Who(l, "a")
			if of != (api.Mod{}) || err != api.ErrNone || len(all) > 0 || err2 != nil || len(who) > 0 || err3 != nil {
				t.Error(of, err, all, err2, who, err3)
			}
		}
	}
}

// full is an index of as many entries as there may be, each with as many packages.
func full() []api.Entry {
	l := samples.Index(samples.Lines(api.MaxIndex))
	for i := range l {
		l[i].Packs = []string{"."}
		for k := 1; k < api.MaxPacks; k++ {
			l[i].Packs = append(l[i].Packs, fmt.Sprintf("p%d/elementxxx/c/d/e", k))
		}
	}
	return l
}

func TestAsManyAsThereMayBe(t *testing.T) {
	l, sel := full(), samples.Mods(samples.Row(api.MaxIndex))
	all, err := pkg.All(l, sel)
	if len(all) != api.MaxIndex*api.MaxPacks || all[0] != "r000" || all[1] != "r000/p1/elementxxx/c/d/e" || all[999] != "r099/p9/elementxxx/c/d/e" || err != nil {
		t.Error(len(all), err)
	}
	// However often a module is handed over.
	again, err := pkg.All(l, slices.Repeat(sel, 20))
	if !slices.Equal(again, all) || err != nil {
		t.Error(len(again), err)
	}
	if got, err := pkg.Of(l, slices.Repeat(sel, 20), "r099"); got != sel[99] || err != nil {
		t.Error(got, err)
	}
	for i, p := range all {
		if who, err := pkg.Who(l, p); !slices.Equal(who, sel[i/api.MaxPacks:i/api.MaxPacks+1]) || err != nil {
			t.Errorf("Who has %s: %v, %v", p, who, err)
		}
	}
}

// has tells whether a package is a module's, from the package's side.
func has(e api.Entry, p string) bool {
	if p == e.Mod.Path {
		return slices.Contains(e.Packs, ".")
	}
	pack, inside := strings.CutPrefix(p, e.Mod.Path+"/")
	return inside && pack != "." && slices.Contains(e.Packs, pack)
}

// wantOf is the module of a package, in a selection.
func wantOf(l []api.Entry, sel []api.Mod, p string) (api.Mod, error) {
	want, err := api.Mod{}, api.ErrNone
	for _, m := range sel {
		if has(l[index.Find(l, m)], p) && len(m.Path) > len(want.Path) {
			want, err = m, nil
		}
	}
	return want, err
}

// wantAll is those of these texts that are packages of a selection.
func wantAll(l []api.Entry, sel []api.Mod, texts []string) []string {
	var want []string
	for _, p := range texts {
		if _, err := wantOf(l, sel, p); err == nil {
			want = append(want, p)
		}
	}
	slices.Sort(want)
	return want
}

func wantWho(l []api.Entry, p string) []api.Mod {
	var want []api.Mod
	for i := len(p); i > 0; i-- {
		m := api.Mod{Path: p[:i], Ver: index.Latest(l, p[:i])}
		if at := index.Find(l, m); at >= 0 && has(l[at], p) {
			want = append(want, m)
		}
	}
	return want
}

// eachIndex hands over many indexes of two versions of a, and of a/b and a/b/b, which may have one another's packages.
func eachIndex(take func([]api.Entry)) {
	packs := []string{"", ".", "b", ". b", "b b/b", "-b . b/b"}
	for n := range 6 * 6 * 6 * 6 {
		take(samples.Index("a@v1.0.0 has " + packs[n%6] + "\na@v1.1.0 has " + packs[n/6%6] + "\na/b@v1.0.0 has " + packs[n/36%6] + "\na/b/b@v1.0.0-rc has " + packs[n/216]))
	}
}

// texts is all that may be a package of these indexes, and much that may not.
func texts() []string {
	var out []string
	samples.EachText("ab/-.", 4, func(p string) { out = append(out, p) })
	samples.EachText("b/-.", 4, func(p string) { out = append(out, "a/b/"+p) })
	slices.Sort(out)
	return slices.Compact(out)
}

func TestCallsOnManyIndexes(t *testing.T) {
	all := append(texts(), "a/b/b/b/b")
	var paths []string
	for _, p := range all {
		if mod.Path(p) == nil {
			paths = append(paths, p)
		}
	}
	seen, n := map[string]int{}, 0
	eachIndex(func(l []api.Entry) {
		n++
		sel := []api.Mod{l[n%2].Mod, l[2].Mod, l[3].Mod, l[1-n%2].Mod}[:n/2%5]
		if got, err := pkg.All(l, sel); !slices.Equal(got, wantAll(l, sel, all)) || err != nil {
			t.Fatalf("All(%v, %v): %v, %v", l, sel, got, err)
		}
		for i := n % 5; i < len(paths); i += 5 {
			want, wantErr := wantOf(l, sel, paths[i])
			if got, err := pkg.Of(l, sel, paths[i]); got != want || err != wantErr {
				t.Fatalf("Of(%v, %v, %s): %v, %v", l, sel, paths[i], got, err)
			}
			seen[want.Path]++
		}
		for i := n % 7; i < len(all); i += 7 {
			want := wantWho(l, all[i])
			if got, err := pkg.Who(l, all[i]); !slices.Equal(got, want) || err != nil {
				t.Fatalf("Who(%v, %q): %v, %v", l, all[i], got, err)
			}
			seen[fmt.Sprint(len(want))]++
		}
	})
	for _, what := range []string{"", "a", "a/b", "a/b/b", "0", "1", "2", "3"} {
		if seen[what] == 0 {
			t.Errorf("seen: %v", seen)
		}
	}
}

// Each package of All is one of a module: it is a package of one of the selection, and Of finds it, unless it is longer than a path.
func TestEachOfAllIsOneOfAModule(t *testing.T) {
	check := func(l []api.Entry, sel []api.Mod) int {
		all, err := pkg.All(l, sel)
		if err != nil {
			t.Fatal(l, sel, err)
		}
		for _, p := range all {
			if !slices.ContainsFunc(sel, func(m api.Mod) bool { return has(l[index.Find(l, m)], p) }) {
				t.Fatalf("All(%v, %v): %s is of none", l, sel, p)
			}
			m, err := pkg.Of(l, sel, p)
			if mod.LikePath(p) == nil && (err != nil || !slices.Contains(sel, m) || !has(l[index.Find(l, m)], p)) {
				t.Fatalf("Of(%v, %v, %s): %v, %v", l, sel, p, m, err)
			}
			if mod.LikePath(p) != nil && err != api.ErrBound {
				t.Fatalf("Of(%v, %v, %s): %v, %v", l, sel, p, m, err)
			}
		}
		return len(all)
	}
	many := 0
	eachIndex(func(l []api.Entry) { many += check(l, []api.Mod{l[1].Mod, l[2].Mod, l[3].Mod}) })
	l := samples.Index(some)
	samples.EachList(l, 2, func(es []api.Entry) {
		var sel []api.Mod
		for _, e := range es {
			sel = append(sel, e.Mod)
		}
		many += check(l, sel)
	})
	if check(full(), samples.Mods(samples.Row(api.MaxIndex))) == 0 || many == 0 {
		t.Error("no packages")
	}
}

// ask hands an index and modules to each call, and writes into what they answer, once it is told.
func ask(l []api.Entry, sel []api.Mod, p string) []any {
	of, err := pkg.Of(l, sel, p)
	all, err2 := pkg.All(l, sel)
	who, err3 := pkg.Who(l, p)
	told := []any{of, err, strings.Join(all, " "), err2, samples.Words(who), err3}
	for i := range all[:cap(all)] {
		all[:cap(all)][i] = "written"
	}
	for i := range who[:cap(who)] {
		who[:cap(who)][i] = api.Mod{Path: "written", Ver: "over"}
	}
	return told
}

func TestArgumentsAreOnlyRead(t *testing.T) {
	for _, words := range []string{"", "a@v1.0.0", "a@v1.0.0 a/b@v0.1.0 a/b/c@v1.1.0", "a/b@v0.2.0 a@v1.10.0 a@v1.0.0 a-b@v0.1.0", "n@v1.0.0", "a@v1.0.0 x@v1.0.0"} {
		for _, p := range []string{"a", "a/b", "a/b/c", "a/behind", "q", ""} {
			l := samples.SpareIndex(samples.Index(some))
			sel := samples.Spare(samples.Mods(words), samples.Mods("a/b@v0.1.0 x@ a@v1.9.0")...)
			before, selBefore := samples.Whole(l), slices.Clone(sel[:cap(sel)])
			want := ask(samples.Index(some), samples.Mods(words), p)
			for range 2 {
				if got := ask(l, sel, p); !reflect.DeepEqual(got, want) {
					t.Errorf("of %s and %q: %v, not %v", words, p, got, want)
				}
			}
			if !reflect.DeepEqual(samples.Whole(l), before) || !slices.Equal(sel[:cap(sel)], selBefore) {
				t.Errorf("of %s and %q: what was handed over has changed", words, p)
			}
		}
	}
}
