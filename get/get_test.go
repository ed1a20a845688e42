package get_test

import (
	"reflect"
	"slices"
	"strings"
	"testing"

	"pewholder/api"
	"pewholder/file"
	"pewholder/get"
	"pewholder/samples"
)

// some has newer ones that require more, less and older ones; ones that are taken back, or have a Pre; and a ring of paths.
const some = `a@v1.0.0 needs b@v1.0.0
	a@v1.1.0 needs b@v1.1.0
	a@v1.2.0-rc needs b@v1.1.0 c@v1.0.0
	a@v1.3.0 back
	a/v2@v2.0.0 needs a@v1.0.0
	b@v1.0.0
	b@v1.1.0 needs c@v1.1.0
	b@v1.2.0 needs c@v1.0.0 d@v0.1.0
	c@v1.0.0
	c@v1.0.1
	c@v1.1.0
	c@v1.2.0 back
	d@v0.1.0
	d@v0.2.0 needs b@v1.2.0
	p/q@v0.1.0-a
	p/q@v0.1.0-b`

// fileOf has these requirements and exclusions, all as words.
func fileOf(reqs, exclude string) api.File {
	return api.File{Path: "main", Reqs: samples.Mods(reqs), Exclude: samples.Mods(exclude)}
}

func TestArg(t *testing.T) {
	for s, want := range map[string][2]string{
		"a": {"a", "upgrade"}, "a@upgrade": {"a", "upgrade"}, "a@latest": {"a", "latest"}, "a@patch": {"a", "patch"}, "a@none": {"a", "none"}, "a@v1": {"a", "v1"}, "a@v1.2": {"a", "v1.2"}, "a@v1.2.3-rc.1": {"a", "v1.2.3-rc.1"},
		"a@<v1.0.0": {"a", "<v1.0.0"}, "a@<=v1.0.0": {"a", "<=v1.0.0"}, "a@>v1.0.0": {"a", ">v1.0.0"}, "a@>=v1.0.0-0": {"a", ">=v1.0.0-0"}, "a/b/v2@v1.0.0": {"a/b/v2", "v1.0.0"},
		"...": {"...", "upgrade"}, "...@none": {"...", "none"}, "a/...": {"a/...", "upgrade"}, "...b...@v0": {"...b...", "v0"}, "latest": {"latest", "upgrade"}, "none@none": {"none", "none"},

		// A suffix is a module's, and a pattern may end as no path does.
		"a/v1": {"a/v1", "upgrade"}, "a/v0@v0": {"a/v0", "v0"}, "a/v02@v1": {"a/v02", "v1"}, "a/v1000000": {"a/v1000000", "upgrade"},
	} {
		if p, q, err := get.Arg(s); p != want[0] || q != want[1] || err != nil {
			t.Errorf("Arg of %q: %q, %q, %v", s, p, q, err)
		}
	}
}

// wrongArgs have the error of what is wrong first: too many `@`, the pattern, the query.
var wrongArgs = []struct {
	arg string
	err error
}{
	{"", api.ErrText}, {"@", api.ErrText}, {"@v1.0.0", api.ErrText}, {"a@", api.ErrText}, {"a@@", api.ErrText}, {"a@v1.0.0@", api.ErrText}, {"@a@v1.0.0", api.ErrText}, {"a@v1@v2", api.ErrText}, {"elevenchars@v1000000.0.0@", api.ErrText},
	{"A", api.ErrText}, {"a/", api.ErrText}, {"a//b@v1", api.ErrText}, {".@v1", api.ErrText}, {"a b", api.ErrText}, {" a", api.ErrText}, {"a\n", api.ErrText}, {"\xff@v1", api.ErrText}, {"A@v1000000", api.ErrText},
	{"elevenchars", api.ErrBound}, {"elevenchars@what", api.ErrBound}, {"a/b/c/d/e/f@v1", api.ErrBound}, {"abcdefghij...", api.ErrBound}, {"a/b/c/d/e/...@none", api.ErrBound},
	{"a@what", api.ErrText}, {"a@None", api.ErrText}, {"a@v", api.ErrText}, {"a@v01", api.ErrText}, {"a@<v1", api.ErrText}, {"a@ v1.0.0", api.ErrText}, {"a@=v1.0.0", api.ErrText}, {"...@...", api.ErrText}, {"a/v1@x", api.ErrText},
	{"a@v1000000.0.0", api.ErrBound}, {"a@v1000000", api.ErrBound}, {"a@<v1.0.0-1000000", api.ErrBound}, {"...@v1.0.0-a.b.c.d.e.f", api.ErrBound},
}

func TestWrongArgs(t *testing.T) {
	for _, c := range wrongArgs {
		if p, q, err := get.Arg(c.arg); p != "" || q != "" || err != c.err {
			t.Errorf("Arg of %q: %q, %q, %#v", c.arg, p, q, err)
		}
	}
}

// rightGets: of a file's requirements and arguments, the new requirements and the new build.
var rightGets = []struct{ reqs, args, want, build string }{
	// Without arguments only what is needless goes.
	{"", "", "", ""}, {"a@v1.0.0", "", "a@v1.0.0", "a@v1.0.0 b@v1.0.0"}, {"a@v1.0.0 b@v1.0.0", "", "a@v1.0.0", "a@v1.0.0 b@v1.0.0"}, {"b@v1.2.0 c@v1.0.0 d@v0.2.0", "", "d@v0.2.0", "b@v1.2.0 c@v1.0.0 d@v0.2.0"},

	// The latest, or what is newer and taken already.
	{"", "a", "a@v1.1.0", "a@v1.1.0 b@v1.1.0 c@v1.1.0"}, {"a@v1.0.0", "a", "a@v1.1.0", "a@v1.1.0 b@v1.1.0 c@v1.1.0"}, {"a@v1.3.0", "a", "a@v1.3.0", "a@v1.3.0"}, {"a@v1.3.0", "a@upgrade", "a@v1.3.0", "a@v1.3.0"},
	{"a@v1.3.0", "a@latest", "a@v1.1.0", "a@v1.1.0 b@v1.1.0 c@v1.1.0"}, {"", "p/q", "p/q@v0.1.0-b", "p/q@v0.1.0-b"}, {"b@v1.1.0", "d", "c@v1.1.0 d@v0.2.0", "b@v1.2.0 c@v1.1.0 d@v0.2.0"},

	// Now is the build's version, not only a requirement's: none of the build is none at all.
	{"a@v1.0.0", "b@patch", "a@v1.0.0", "a@v1.0.0 b@v1.0.0"}, {"c@v1.0.0", "c@patch", "c@v1.0.1", "c@v1.0.1"}, {"", "c@patch", "c@v1.1.0", "c@v1.1.0"}, {"b@v1.2.0", "c@patch", "b@v1.2.0 c@v1.0.1", "b@v1.2.0 c@v1.0.1 d@v0.1.0"},
	{"b@v1.2.0 c@v1.2.0", "c", "b@v1.2.0 c@v1.2.0", "b@v1.2.0 c@v1.2.0 d@v0.1.0"},

	// Versions, and what they are less or greater than.
	{"", "a@v1.0.0", "a@v1.0.0", "a@v1.0.0 b@v1.0.0"}, {"", "c@v1", "c@v1.1.0", "c@v1.1.0"}, {"", "c@v1.0", "c@v1.0.1", "c@v1.0.1"}, {"", "c@v1.2", "c@v1.2.0", "c@v1.2.0"}, {"", "c@>v1.0.0", "c@v1.0.1", "c@v1.0.1"}, {"", "c@>=v1.1.1", "c@v1.2.0", "c@v1.2.0"},
	{"", "c@<v1.1.0", "c@v1.0.1", "c@v1.0.1"}, {"", "c@<=v1.0.0", "c@v1.0.0", "c@v1.0.0"}, {"", "p/q@<v0.1.0-b", "p/q@v0.1.0-a", "p/q@v0.1.0-a"}, {"", "a/v2@v2", "a/v2@v2.0.0", "a@v1.0.0 a/v2@v2.0.0 b@v1.0.0"},

	// Older ones take down what requires newer ones, and leave what came by these.
	{"a@v1.1.0", "b@v1.0.0", "a@v1.0.0 c@v1.1.0", "a@v1.0.0 b@v1.0.0 c@v1.1.0"}, {"d@v0.2.0", "b@v1.1.0", "b@v1.1.0 d@v0.1.0", "b@v1.1.0 c@v1.1.0 d@v0.1.0"}, {"a@v1.3.0 b@v1.1.0", "c@v1.0.0", "a@v1.3.0 b@v1.0.0 c@v1.0.0", "a@v1.3.0 b@v1.0.0 c@v1.0.0"},
	{"a@v1.2.0-rc", "c@v1.0.1", "a@v1.0.0 c@v1.0.1", "a@v1.0.0 b@v1.0.0 c@v1.0.1"}, {"b@v1.2.0", "d@none", "b@v1.1.0", "b@v1.1.0 c@v1.1.0"},

	// None: it goes, and what can't be without it.
	{"a@v1.0.0", "a@none", "b@v1.0.0", "b@v1.0.0"}, {"a/v2@v2.0.0", "a@none", "b@v1.0.0", "b@v1.0.0"}, {"a/v2@v2.0.0", "b@none", "", ""}, {"d@v0.2.0", "b@none", "c@v1.0.0 d@v0.1.0", "c@v1.0.0 d@v0.1.0"}, {"c@v1.0.0", "a@none", "c@v1.0.0", "c@v1.0.0"},

	// Patterns with `...` speak of the build alone.
	{"a@v1.0.0", "...", "a@v1.1.0 b@v1.2.0", "a@v1.1.0 b@v1.2.0 c@v1.1.0 d@v0.1.0"}, {"a@v1.0.0 d@v0.1.0", "...@none", "", ""}, {"a@v1.0.0 p/q@v0.1.0-a", "p/...", "a@v1.0.0 p/q@v0.1.0-b", "a@v1.0.0 b@v1.0.0 p/q@v0.1.0-b"}, {"a/v2@v2.0.0", "a/...@none", "b@v1.0.0", "b@v1.0.0"},
	{"", "...", "", ""}, {"", "a...@v9.0.0", "", ""}, {"c@v1.0.0", "q...", "c@v1.0.0", "c@v1.0.0"}, {"c@v1.0.0", "...c...@v1.0", "c@v1.0.1", "c@v1.0.1"}, {"c@v1.0.0 d@v0.1.0", "...@>=v0.0.0", "c@v1.0.0 d@v0.1.0", "c@v1.0.0 d@v0.1.0"},

	// Several arguments: in whatever order, what they ask for is so at once.
	{"", "c@v1.0.0 d@v0.1.0", "c@v1.0.0 d@v0.1.0", "c@v1.0.0 d@v0.1.0"}, {"", "d b@v1.2.0", "d@v0.2.0", "b@v1.2.0 c@v1.0.0 d@v0.2.0"}, {"a@v1.1.0", "a@v1.0.0 c@none", "a@v1.0.0", "a@v1.0.0 b@v1.0.0"}, {"a@v1.1.0", "c@none a@v1.0.0", "a@v1.0.0", "a@v1.0.0 b@v1.0.0"},
}

func TestGet(t *testing.T) {
	for _, c := range rightGets {
		for _, f := range []api.File{fileOf(c.reqs, ""), fileOf(c.reqs, "c@v1.9.0 x@v1.0.0"), {Path: "x/y/v3", Reqs: samples.Mods(c.reqs), Exclude: samples.Mods("a@v0.0.1")}} {
			got, sel, err := get.Get(samples.Index(some), f, strings.Fields(c.args))
			if samples.Words(got.Reqs) != c.want || samples.Words(sel) != c.build || err != nil {
				t.Errorf("Get %s of %s: %s; %s, %v", c.args, c.reqs, samples.Words(got.Reqs), samples.Words(sel), err)
			}
			if got.Path != f.Path || !slices.Equal(got.Exclude, f.Exclude) || file.Check(got) != nil {
				t.Errorf("Get %s of %s: %v", c.args, c.reqs, got)
			}
		}
	}
}

func TestPinsOfOnePath(t *testing.T) {
	for _, c := range []struct {
		reqs, args, want string
		at               int // where they clash (-1: they do not)
	}{
		// Alike ones, however they are asked for.
		{"", "c c", "c@v1.1.0", -1}, {"", "c@v1.0.1 c@v1.0 c@<v1.1.0", "c@v1.0.1", -1}, {"c@v1.0.0", "c... ...@v1.1.0 c", "c@v1.1.0", -1}, {"c@v1.0.0", "c@none ...@none", "", -1},

		// That of an argument without `...` counts, on whichever side it stands.
		{"c@v1.0.0", "c@v1.0.0 c...", "c@v1.0.0", -1}, {"c@v1.0.0", "c... c@v1.0.0", "c@v1.0.0", -1}, {"c@v1.0.0 d@v0.1.0", "...@none c", "c@v1.1.0", -1}, {"c@v1.0.0 d@v0.1.0", "c ...@none", "c@v1.1.0", -1}, {"c@v1.0.0 d@v0.1.0", "... d@none", "c@v1.1.0", -1},
		{"c@v1.0.0", "c... c@v1.0 ...@v1.1.0 c@v1.0.1", "c@v1.0.1", -1},

		// Two without.
		{"", "c@v1.0.0 c@v1.0", "", 1}, {"", "c c@none", "", 1}, {"", "c@none c@v1.0.0", "", 1}, {"", "c d c@v1.0.0 c@v1.0", "", 2}, {"c@v1.0.0", "c@v1.1.0 c... c@v1.0", "", 2}, {"c@v1.0.0", "c... c@v1.1.0 c@v1.0", "", 2},

		// Two with, also where one without counts.
		{"c@v1.0.0", "c... c...@v1.0.0", "", 1}, {"c@v1.0.0 d@v0.1.0", "d...@none c...@none ...", "", 2}, {"c@v1.0.0", "c... c@v1.0.0 c...@v1.0", "", 2}, {"c@v1.0.0", "c@v1.0.0 c... c...@v1.0", "", 2}, {"c@v1.0.0", "c... c@v1.1.0 c...@v1.0", "", 2}, {"c@v1.0.0", "c... c...@v1.0 c@v1.0", "", 1},
	} {
		got, sel, err := get.Get(samples.Index(some), fileOf(c.reqs, ""), strings.Fields(c.args))
		if c.at < 0 && (samples.Words(got.Reqs) != c.want || samples.Words(sel) != c.want || err != nil) {
			t.Errorf("Get %s of %s: %s; %s, %v", c.args, c.reqs, samples.Words(got.Reqs), samples.Words(sel), err)
		}
		if c.at >= 0 && (!isNothing(got, sel) || !samples.SameFault(err, api.ErrClash, c.at)) {
			t.Errorf("Get %s of %s: %v, %v, %#v", c.args, c.reqs, got, sel, err)
		}
	}
}

func isNothing(f api.File, sel []api.Mod) bool {
	return f.Path == "" && len(f.Reqs)+len(f.Exclude)+len(sel) == 0
}

func TestErrors(t *testing.T) {
	for _, c := range []struct {
		reqs, exclude, args string
		err                 error
		at                  int
	}{
		// The first argument that is wrong, whatever is wrong with it, and ahead of what is built.
		{"x@v1.0.0", "", "a a@b@c A", api.ErrText, 1}, {"x@v1.0.0", "", "a@v1000000 a@", api.ErrBound, 0}, {"a@v1.0.0", "b@v1.0.0", "x a@b@c", api.ErrText, 1}, {"", "", "c@v1.0.0 c@v1.1.0 a@what", api.ErrText, 2}, {"", "", "x elevenchars", api.ErrBound, 1},

		// The build: its errors have no place, nor has what is excluded, and both go ahead of what can't be had.
		{"x@v1.0.0", "", "", api.ErrNone, -1}, {"a@v1.0.0 x@v1.0.0", "", "a", api.ErrNone, -1}, {"c@v1.9.0", "", "x", api.ErrNone, -1}, {"a@v1.0.0 x@v1.0.0", "b@v1.0.0", "", api.ErrNone, -1},
		{"a@v1.0.0", "b@v1.0.0", "", api.ErrClash, -1}, {"a@v1.0.0", "b@v1.0.0", "b@none", api.ErrClash, -1}, {"b@v1.2.0", "a@v1.0.0 d@v0.1.0", "x", api.ErrClash, -1}, {"b@v1.2.0", "c@v1.0.0", "c@v1.0.0 c@v1.1.0", api.ErrClash, -1},

		// No entry, also where none is asked for, and where the path could not be one.
		{"", "", "x", api.ErrNone, 0}, {"", "", "c x", api.ErrNone, 1}, {"", "", "c d x y", api.ErrNone, 2}, {"", "", "x@none", api.ErrNone, 0}, {"", "", "a/v1", api.ErrNone, 0}, {"", "", "a/v3@v3.0.0", api.ErrNone, 0}, {"", "", "p", api.ErrNone, 0},

		// Nothing to pick.
		{"", "", "c@v1.0.2", api.ErrNone, 0}, {"", "", "c d@v1", api.ErrNone, 1}, {"", "", "c@<v1.0.0", api.ErrNone, 0}, {"", "", "a a/v2@v1", api.ErrNone, 1}, {"a@v1.0.0 c@v1.0.0", "", "c ...@v1.0.1", api.ErrNone, 1}, {"a@v1.0.0 c@v1.0.0", "", "c... d b...@v1.0.1 x", api.ErrNone, 2},

		// The first argument, and of it the first path.
		{"", "", "c@v1.0.0 c@v1.1.0 x", api.ErrClash, 1}, {"", "", "c@v1.0.0 x c@v1.1.0", api.ErrNone, 1}, {"c@v1.0.0 d@v0.1.0", "", "c...@v1.0.0 ...@v1.1.0", api.ErrClash, 1}, {"c@v1.0.0 d@v0.1.0", "", "d...@v0.1.0 ...@v0", api.ErrNone, 1},

		// What is pinned can't be so: at the first argument that speaks of such a path, by the pin that counts.
		{"", "", "c@v1.0.0 b@v1.1.0", api.ErrClash, 0}, {"", "", "b@v1.1.0 c@v1.0.0", api.ErrClash, 1}, {"", "", "d@v0.1.0 c@none b", api.ErrClash, 1}, {"", "", "a@v1.0.0 b@none", api.ErrClash, 1}, {"b@v1.0.0", "", "c@v1.0.0 b@v1.0.0 d", api.ErrClash, 1}, {"b@v1.1.0", "", "b@v1.1.0 d", api.ErrClash, 0},
		{"a@v1.0.0", "", "...@v1.0.0 b@v1.0.0 c@v1.0.0 d", api.ErrClash, 0}, {"a@v1.0.0", "", "...@latest b@v1.0.0 d", api.ErrClash, 0}, {"a@v1.0.0", "", "a@v1.1.0 b...@latest b@v1.0.0", api.ErrClash, 1}, {"a@v1.0.0", "", "a... d b@v1.1.0 b...", api.ErrClash, 2}, {"", "", "c c@v1.1.0 b@v1.2.0 b a/v2 a@none d", api.ErrClash, 5},

		// The new build has what is excluded: a pin, or what comes by one; a pin that can't be goes ahead.
		{"", "c@v1.1.0", "c", api.ErrClash, -1}, {"a@v1.0.0", "c@v1.1.0", "a", api.ErrClash, -1}, {"b@v1.1.0", "b@v1.0.0", "c@v1.0.0", api.ErrClash, -1}, {"", "c@v1.1.0", "d c@v1.0.0 b@v1.1.0", api.ErrClash, 1}, {"", "c@v1.1.0", "c@v1.0.0 b@v1.1.0", api.ErrClash, 0},
	} {
		got, sel, err := get.Get(samples.Index(some), fileOf(c.reqs, c.exclude), strings.Fields(c.args))
		if !isNothing(got, sel) || !samples.SameFault(err, c.err, c.at) {
			t.Errorf("Get %s of %s without %s: %v, %v, %#v", c.args, c.reqs, c.exclude, got, sel, err)
		}
	}
}

// What is excluded may be reached, if it is not taken.
func TestExcludedAndNotTaken(t *testing.T) {
	for _, c := range []struct{ reqs, exclude, args, want string }{
		{"a@v1.1.0 b@v1.2.0", "b@v1.1.0", "", "a@v1.1.0 b@v1.2.0 c@v1.1.0 d@v0.1.0"}, {"b@v1.2.0 c@v1.1.0", "c@v1.0.0", "d", "b@v1.2.0 c@v1.1.0 d@v0.2.0"}, {"a@v1.0.0", "b@v1.1.0 c@v1.0.0", "a b@v1.2.0", "a@v1.1.0 b@v1.2.0 c@v1.1.0 d@v0.1.0"}, {"c@v1.0.0", "c@v1.0.1", "c", "c@v1.1.0"},
	} {
		got, sel, err := get.Get(samples.Index(some), fileOf(c.reqs, c.exclude), strings.Fields(c.args))
		if samples.Words(sel) != c.want || samples.Words(got.Exclude) != c.exclude || err != nil {
			t.Errorf("Get %s of %s without %s: %v, %v, %v", c.args, c.reqs, c.exclude, got, sel, err)
		}
	}
}

func TestWrongArgsHaveTheirPlace(t *testing.T) {
	for _, c := range wrongArgs {
		for at := range api.MaxArgs {
			args := slices.Repeat([]string{"c"}, api.MaxArgs)
			args[at], args[api.MaxArgs-1] = c.arg, c.arg
			// Whether the file can be built or not.
			for _, reqs := range []string{"", "x@v1.0.0"} {
				if got, sel, err := get.Get(samples.Index(some), fileOf(reqs, ""), args); !isNothing(got, sel) || !samples.SameFault(err, c.err, at) {
					t.Errorf("Get %q: %v, %v, %#v", args, got, sel, err)
				}
			}
		}
	}
}

// lists of arguments: none, right ones, ones that can't be had, wrong ones, too many.
var argLists = [][]string{nil, {}, {"a"}, {"x"}, {"A"}, {"c@v1.0.0", "c@v1.1.0"}, {""}, slices.Repeat([]string{"a"}, 11), slices.Repeat([]string{""}, 11), slices.Repeat([]string{"@@"}, 2000)}

func TestWrongIndexes(t *testing.T) {
	for _, c := range []struct {
		index string
		err   error
		at    int
	}{
		{samples.Lines(101), api.ErrFull, -1}, {"a@v1.0.0\nb@", api.ErrText, 1}, {"a@v1.0.0\nb@v1000000.0.0", api.ErrBound, 1}, {"a@v2.0.0", api.ErrMajor, 0}, {"a@v1.0.0\na@v1.0.0", api.ErrOrder, 1},
		{"a@v1.0.0 needs a@v1.0.0", api.ErrShape, 0}, {"a@v1.0.0\nb@v1.0.0 has x x", api.ErrOrder, 1}, {"a@v1.0.0\nb@v1.0.0 needs c@v1.0.0", api.ErrNone, 1},
	} {
		for _, f := range []api.File{{}, fileOf("", ""), fileOf("a@v1.0.0", ""), fileOf("b@ a@", "x"), {Path: "A"}} {
			for _, args := range argLists {
				if got, sel, err := get.Get(samples.Index(c.index), f, args); !isNothing(got, sel) || !samples.SameFault(err, c.err, c.at) {
					t.Errorf("Get in %.80s: %v, %v, %#v", c.index, got, sel, err)
				}
			}
		}
	}
}

// A wrong file's error has no place, and goes ahead of what is wrong with the arguments.
func TestWrongFiles(t *testing.T) {
	for _, c := range []struct {
		f   api.File
		err error
	}{
		{api.File{}, api.ErrText}, {api.File{Path: "elevenchars"}, api.ErrBound}, {api.File{Path: "a/v1"}, api.ErrMajor}, {fileOf(samples.Row(21), ""), api.ErrFull}, {fileOf("", samples.Row(21)), api.ErrFull},
		{fileOf("a@v1.0.0 b@", ""), api.ErrText}, {fileOf("a@v1000000.0.0", ""), api.ErrBound}, {fileOf("a@v2.0.0", ""), api.ErrMajor}, {fileOf("main@v1.0.0", ""), api.ErrShape}, {fileOf("b@v1.0.0 a@v1.0.0", ""), api.ErrOrder}, {fileOf("a@v1.0.0 a@v1.1.0", ""), api.ErrOrder},
		{fileOf("", "a@v1.0.0 b"), api.ErrText}, {fileOf("", "b@v1.0.0 b@v1.0.0"), api.ErrOrder}, {fileOf("a@v1.0.0 b@v1.0.0", "b@v1.0.0"), api.ErrClash},
	} {
		for _, args := range argLists {
			if got, sel, err := get.Get(samples.Index(some), c.f, args); !isNothing(got, sel) || err != c.err {
				t.Errorf("Get of %v: %v, %v, %#v", c.f, got, sel, err)
			}
		}
	}
}

func TestTooManyArguments(t *testing.T) {
	for _, n := range []int{10, 11, 12, 1000} {
		for _, arg := range []string{"c", "...", "x", "", "a@b@c"} {
			// The bound goes ahead of what is wrong with them, and of what can't be built.
			for _, reqs := range []string{"c@v1.0.0", "x@v1.0.0"} {
				got, sel, err := get.Get(samples.Index(some), fileOf(reqs, ""), slices.Repeat([]string{arg}, n))
				if (err == api.ErrFull) != (n > 10) || n > 10 && !isNothing(got, sel) {
					t.Errorf("Get %d of %q: %v, %v, %v", n, arg, got, sel, err)
				}
			}
		}
	}
	if got, _, err := get.Get(samples.Index(some), fileOf("", ""), strings.Fields("a@v1.0.0 b@v1.0.0 c@v1.0.0 d@v0.1.0 p/q a b@v1 c@v1.0.0 c@<=v1.0.0 b@<v1.1.0")); !isNothing(got, nil) || !samples.SameFault(err, api.ErrClash, 5) {
		t.Error(got, err)
	}
	if got, _, err := get.Get(samples.Index(some), fileOf("", ""), strings.Fields("a@v1.0.0 b@v1.0.0 c@v1.0.0 d@v0.1.0 p/q p/q@latest c@<=v1.0.0 b@<v1.1.0 a@v1.0 d@v0.1")); samples.Words(got.Reqs) != "a@v1.0.0 c@v1.0.0 d@v0.1.0 p/q@v0.1.0-b" || err != nil {
		t.Error(got, err)
	}
}

func TestMoreRequirementsThanAFileHolds(t *testing.T) {
	l := samples.Index(samples.Lines(100))
	for _, c := range []struct {
		reqs          int
		exclude, args string
		err           error
		at            int
	}{
		{20, "", "", nil, -1}, {20, "", "...", nil, -1}, {20, "", "r000 r019", nil, -1}, {19, "", "r019", nil, -1}, {20, "", "r020 r019@none", nil, -1}, {10, "", "r010 r011 r012 r013 r014 r015 r016 r017 r018 r019", nil, -1},
		{20, "", "r020", api.ErrFull, -1}, {20, "", "r099 r000", api.ErrFull, -1}, {19, "", "r019 r020", api.ErrFull, -1}, {20, "", "r020 r030 r019@none", api.ErrFull, -1},
		{20, "r020@v1.0.0", "r020", api.ErrClash, -1}, {20, "", "r020 x", api.ErrNone, 1}, {20, "", "r020 r020@none", api.ErrClash, 1},
	} {
		got, sel, err := get.Get(l, fileOf(samples.Row(c.reqs), c.exclude), strings.Fields(c.args))
		if !samples.SameFault(err, c.err, c.at) || c.err != nil && !isNothing(got, sel) || c.err == nil && (len(got.Reqs) != 20 || !slices.Equal(sel, got.Reqs)) {
			t.Errorf("Get %s of %d: %v, %v, %#v", c.args, c.reqs, got, sel, err)
		}
	}
	// What is built may be more, if the roots are not.
	for i := range l[:80] {
		l[i].Reqs = samples.Mods("r" + l[i+20].Mod.Path[1:] + "@v1.0.0")
	}
	got, sel, err := get.Get(l, fileOf(samples.Row(19), ""), []string{"r019", "..."})
	if samples.Words(got.Reqs) != samples.Row(20) || samples.Words(sel) != samples.Row(100) || err != nil {
		t.Error(got, sel, err)
	}
	// And one that goes takes along all that require it.
	if got, sel, err := get.Get(l, fileOf(samples.Row(20), ""), []string{"r099@none"}); samples.Words(got.Reqs) != samples.Row(19) || len(sel) != 95 || err != nil {
		t.Error(got, sel, err)
	}
}

func TestNothingAtAll(t *testing.T) {
	for _, l := range [][]api.Entry{nil, {}} {
		for _, args := range [][]string{nil, {}, {"..."}, {"a...@none", "...@v9"}} {
			for _, mods := range [][]api.Mod{nil, {}} {
				got, sel, err := get.Get(l, api.File{Path: "main", Reqs: mods, Exclude: mods}, args)
				if got.Path != "main" || len(got.Reqs)+len(got.Exclude)+len(sel) > 0 || err != nil {
					t.Error(args, got, sel, err)
				}
			}
		}
		if got, sel, err := get.Get(l, fileOf("", ""), []string{"a"}); !isNothing(got, sel) || !samples.SameFault(err, api.ErrNone, 0) {
			t.Error(got, sel, err)
		}
		if got, sel, err := get.Get(l, fileOf("a@v1.0.0", ""), nil); !isNothing(got, sel) || err != api.ErrNone {
			t.Error(got, sel, err)
		}
	}
}

// ask hands all to Get, and tells what it answers; each list is written over once it is told, so that one that shared its memory would be told wrong.
func ask(l []api.Entry, f api.File, args []string) []any {
	got, sel, err := get.Get(l, f, args)
	told := []any{got.Path, err}
	for _, list := range [][]api.Mod{got.Reqs, got.Exclude, sel} {
		told = append(told, samples.Words(list))
		for i := range list[:cap(list)] {
			list[:cap(list)][i] = api.Mod{Path: "written", Ver: "over"}
		}
	}
	return told
}

// What is answered shares no memory: not with what was handed over, nor one list with another.
func TestAnswersAreNewMemory(t *testing.T) {
	for _, c := range rightGets {
		want := []any{"main", error(nil), c.want, "z@v1.0.0", c.build}
		l, f := samples.Index(some), fileOf(c.reqs, "z@v1.0.0")
		for range 2 {
			if told := ask(l, f, strings.Fields(c.args)); !reflect.DeepEqual(told, want) {
				t.Errorf("Get %s of %s: %v", c.args, c.reqs, told)
			}
		}
	}
}

func TestArgumentsAreOnlyRead(t *testing.T) {
	for _, reqs := range []string{"", "a@v1.0.0", "a@v1.0.0 d@v0.1.0", "a@v1.1.0 b@v1.1.0", "x@v1.0.0"} {
		for _, exclude := range []string{"", "z@v1.0.0", "b@v1.0.0", "c@v1.9.0 z@v1.0.0"} {
			for _, words := range []string{"", "a", "c@v1.0.0", "... b@v1.1.0", "a@none d", "c@v1.0.0 c@v1.1.0", "A"} {
				l, args := samples.SpareIndex(samples.Index(some)), samples.Spare(strings.Fields(words), "x", "c@none", "@")
				f := api.File{Path: "main", Reqs: samples.Spare(samples.Mods(reqs), samples.Mods("z@v1.0.0 x@")...), Exclude: samples.Spare(samples.Mods(exclude), samples.Mods("a@v1.0.0 x@")...)}
				before, argsBefore := samples.Whole(l), slices.Clone(args[:cap(args)])
				reqsBefore, excludeBefore := slices.Clone(f.Reqs[:cap(f.Reqs)]), slices.Clone(f.Exclude[:cap(f.Exclude)])
				want := ask(samples.Index(some), fileOf(reqs, exclude), strings.Fields(words))
				for range 2 {
					if got := ask(l, f, args); !reflect.DeepEqual(got, want) {
						t.Errorf("of %s, %s and %s: %v, not %v", reqs, exclude, words, got, want)
					}
				}
				if !reflect.DeepEqual(samples.Whole(l), before) || !slices.Equal(args[:cap(args)], argsBefore) || !slices.Equal(f.Reqs[:cap(f.Reqs)], reqsBefore) || !slices.Equal(f.Exclude[:cap(f.Exclude)], excludeBefore) {
					t.Errorf("of %s, %s and %s: what was handed over has changed", reqs, exclude, words)
				}
			}
		}
	}
}
