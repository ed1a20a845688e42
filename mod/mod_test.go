package mod_test

import (
	"regexp"
	"slices"
	"strconv"
	"strings"
	"testing"

	"pewholder/api"
	"pewholder/mod"
	"pewholder/samples"
	"pewholder/ver"
)

// paths are right, each with what is ahead of its suffix, and the suffix's number.
var paths = []struct {
	path, head string
	suffix     int
}{
	{"a", "a", 0}, {"0", "0", 0}, {"-", "-", 0}, {"_", "_", 0}, {".a", ".a", 0}, {"a.", "a.", 0}, {"..a", "..a", 0},
	{"a..", "a..", 0}, {"..-..", "..-..", 0}, {"a..b", "a..b", 0}, {"a.b-c_9/x", "a.b-c_9/x", 0}, {"tencharsxx", "tencharsxx", 0},
	{"a/b/c/d/e", "a/b/c/d/e", 0}, {"0123456789/abcdefghij/klmnopqrst/uvwxyz.-_0/v", "0123456789/abcdefghij/klmnopqrst/uvwxyz.-_0/v", 0},
	{"a../..b", "a../..b", 0}, {"a./.b", "a./.b", 0},

	// Like a suffix, but alone, not at the end, or not quite.
	{"v0", "v0", 0}, {"v1", "v1", 0}, {"v2", "v2", 0}, {"v02", "v02", 0}, {"v999999999", "v999999999", 0}, {"v1/a", "v1/a", 0},
	{"v2/a", "v2/a", 0}, {"a/v0/b", "a/v0/b", 0}, {"a/v2/b", "a/v2/b", 0}, {"a/v02/b", "a/v02/b", 0}, {"a/v", "a/v", 0},
	{"a/vv2", "a/vv2", 0}, {"a/v2x", "a/v2x", 0}, {"a/v1.", "a/v1.", 0}, {"a/v1.2", "a/v1.2", 0}, {"a/v-1", "a/v-1", 0},
	{"a/xv1", "a/xv1", 0}, {"a/1", "a/1", 0}, {"a/2", "a/2", 0}, {"a/v_2", "a/v_2", 0},

	{"a/v2", "a", 2}, {"a/v9", "a", 9}, {"a/v10", "a", 10}, {"a/v999999", "a", 999999}, {"v2/v3", "v2", 3}, {"v1/v2", "v1", 2},
	{"a/b/v13", "a/b", 13}, {"a/v2/v3", "a/v2", 3}, {"a/v1/v3", "a/v1", 3}, {"a/b/c/d/v100", "a/b/c/d", 100}, {"tencharsxx/v20", "tencharsxx", 20},
}

// noPaths are texts of no path, with the error that says so.
var noPaths = []struct {
	text string
	err  error
}{
	{"", api.ErrText}, {"/", api.ErrText}, {"a/", api.ErrText}, {"/a", api.ErrText}, {"a//b", api.ErrText}, {"A", api.ErrText},
	{"a/B", api.ErrText}, {"a b", api.ErrText}, {" a", api.ErrText}, {"a\n", api.ErrText}, {"a@b", api.ErrText}, {"a+b", api.ErrText},
	{"a\\b", api.ErrText}, {"\u00e9", api.ErrText}, {"a\xff", api.ErrText}, {"a\x00", api.ErrText}, {".", api.ErrText}, {"..", api.ErrText},
	{"...", api.ErrText}, {"....", api.ErrText}, {"./a", api.ErrText}, {"a/.", api.ErrText}, {"a/../b", api.ErrText}, {"a/...", api.ErrText},
	{"a...b", api.ErrText}, {"a...", api.ErrText}, {"...a", api.ErrText}, {"a....b", api.ErrText}, {"a/V2", api.ErrText}, {"/v2", api.ErrText},
	{"a//v2", api.ErrText}, {"a/v2/", api.ErrText}, {"a/v 2", api.ErrText}, {"a/v\u0662", api.ErrText},

	{"a/b/c/d/e/f", api.ErrBound}, {"a/b/c/d/e/v2", api.ErrBound}, {"a/b/c/d/e/v1", api.ErrBound}, {"elevenchars", api.ErrBound},
	{"elevenchars/a", api.ErrBound}, {"a/elevenchars", api.ErrBound}, {"a/elevenchars/b", api.ErrBound}, {"elevenchars/v1", api.ErrBound},
	{"elevenchars/v02", api.ErrBound}, {"a/v1000000000", api.ErrBound}, {"a/v0000000002", api.ErrBound}, {"v1000000000", api.ErrBound},
	{"elevenchars/b/c/d/e/f", api.ErrBound}, {strings.Repeat("a", 5000), api.ErrBound}, {"a" + strings.Repeat("/a", 5000), api.ErrBound},
	{strings.Repeat("..a", 4), api.ErrBound},

	// Out of bounds, and wrong elsewhere too, ahead of it or behind it.
	{"elevenchars/A", api.ErrText}, {"A/elevenchars", api.ErrText}, {"elevenCHARS", api.ErrText}, {"elevenchars/", api.ErrText},
	{"elevenchars/..", api.ErrText}, {"ele...chars", api.ErrText}, {"...........", api.ErrText}, {"a/b/c/d/e/f/", api.ErrText},
	{"/b/c/d/e/f", api.ErrText}, {"a/b/c/d/e/..", api.ErrText}, {"A/b/c/d/e/v1", api.ErrText}, {"A/v1", api.ErrText}, {"../v0", api.ErrText},

	{"a/v0", api.ErrMajor}, {"a/v1", api.ErrMajor}, {"a/v00", api.ErrMajor}, {"a/v01", api.ErrMajor}, {"a/v02", api.ErrMajor},
	{"a/v010", api.ErrMajor}, {"a/v1000000", api.ErrMajor}, {"a/v999999999", api.ErrMajor}, {"a/v000000002", api.ErrMajor},
	{"v2/v1", api.ErrMajor}, {"a/v2/v0", api.ErrMajor}, {"a/b/c/d/v1", api.ErrMajor},
}

func TestPathTakesPaths(t *testing.T) {
	for _, c := range paths {
		if err := mod.Path(c.path); err != nil {
			t.Errorf("Path(%q): %v", c.path, err)
		}
	}
}

func TestPathTellsWhatIsNone(t *testing.T) {
	for _, c := range noPaths {
		if err := mod.Path(c.text); err != c.err {
			t.Errorf("Path(%.40q): %v, not %v", c.text, err, c.err)
		}
	}
}

// LikePath tells the same, but that of a suffix.
func TestLikePath(t *testing.T) {
	for _, c := range paths {
		if err := mod.LikePath(c.path); err != nil {
			t.Errorf("LikePath(%q): %v", c.path, err)
		}
	}
	for _, c := range noPaths {
		want := c.err
		if want == api.ErrMajor {
			want = nil
		}
		if err := mod.LikePath(c.text); err != want {
			t.Errorf("LikePath(%.40q): %v, not %v", c.text, err, want)
		}
	}
}

func TestPathOfEachByte(t *testing.T) {
	for i := range 256 {
		c := string([]byte{byte(i)})
		inside := strings.Contains("abcdefghijklmnopqrstuvwxyz0123456789.-_", c)
		if (mod.Path("x"+c) == nil) != inside {
			t.Errorf("byte %d behind another one", i)
		}
		if (mod.Path(c) == nil) != (inside && c != ".") {
			t.Errorf("byte %d alone", i)
		}
		if (mod.Path("a"+c+"b") == nil) != (inside || c == "/") {
			t.Errorf("byte %d between two", i)
		}
	}
}

// The same rules, told by patterns over the whole text.
var (
	likePath  = regexp.MustCompile(`^[a-z0-9._-]+(/[a-z0-9._-]+)*$`)
	onlyDots  = regexp.MustCompile(`(^|/)\.+(/|$)|\.\.\.`)
	tooLong   = regexp.MustCompile(`[^/]{11}`)
	tooMany   = regexp.MustCompile(`(/.*){5}`)
	badSuffix = regexp.MustCompile(`/v([01]|0[0-9]+|[1-9][0-9]{6,})$`)
	suffix    = regexp.MustCompile(`^(.+)/v([2-9]|[1-9][0-9]{1,5})$`)
)

func wantOfPath(s string) error {
	switch {
	case !likePath.MatchString(s) || onlyDots.MatchString(s):
		return api.ErrText
	case tooLong.MatchString(s) || tooMany.MatchString(s):
		return api.ErrBound
	case badSuffix.MatchString(s):
		return api.ErrMajor
	}
	return nil
}

func TestPathAndSplitOfManyTexts(t *testing.T) {
	seen := map[error]int{}
	try := func(s string) {
		want := wantOfPath(s)
		seen[want]++
		if err := mod.Path(s); err != want {
			t.Errorf("Path(%q): %v, not %v", s, err, want)
		}
		head, n := s, 0
		if m := suffix.FindStringSubmatch(s); m != nil {
			head = m[1]
			n, _ = strconv.Atoi(m[2])
		}
		if want != nil {
			head, n = "", 0
		}
		if gotHead, gotN := mod.Split(s); gotHead != head || gotN != n {
			t.Errorf("Split(%q): %q, %d, not %q, %d", s, gotHead, gotN, head, n)
		}
	}
	samples.EachText("av012./A", 6, try)
	samples.EachText("v019", 8, func(s string) { try("a/" + s) })
	samples.EachText("v0.a/", 4, func(s string) { try("ninechars" + s) })
	samples.EachText("v2./", 5, func(s string) { try("a/b/c" + s) })
	for _, err := range []error{nil, api.ErrText, api.ErrBound, api.ErrMajor} {
		if seen[err] == 0 {
			t.Errorf("no text with %v", err)
		}
	}
}

func TestSplit(t *testing.T) {
	for _, c := range paths {
		if head, n := mod.Split(c.path); head != c.head || n != c.suffix {
			t.Errorf("Split(%q): %q, %d, not %q, %d", c.path, head, n, c.head, c.suffix)
		}
	}
	for _, c := range noPaths {
		if head, n := mod.Split(c.text); head != "" || n != 0 {
			t.Errorf("Split(%.40q): %q, %d", c.text, head, n)
		}
	}
}

// rising holds modules, each ahead of the ones behind it.
var rising = []api.Mod{
	{Path: "-", Ver: "v1.0.0"}, {Path: "0", Ver: "v0.0.0"}, {Path: "_", Ver: "v0.0.0"}, {Path: "a", Ver: "v0.0.0-0"}, {Path: "a", Ver: "v0.0.0"},
	{Path: "a", Ver: "v1.2.0-rc.2"}, {Path: "a", Ver: "v1.2.0-rc.10"}, {Path: "a", Ver: "v1.2.0"}, {Path: "a", Ver: "v1.10.0"},
	{Path: "a-b", Ver: "v0.0.1"}, {Path: "a.b", Ver: "v0.0.1"}, {Path: "a/b", Ver: "v0.0.1"}, {Path: "a/b/v2", Ver: "v2.0.1"},
	{Path: "a/v10", Ver: "v10.0.0"}, {Path: "a/v2", Ver: "v2.0.0"}, {Path: "a/v2", Ver: "v2.0.1"}, {Path: "a/v999999", Ver: "v999999.0.0"},
	{Path: "a0", Ver: "v0.0.0"}, {Path: "aa", Ver: "v0.0.0"}, {Path: "b", Ver: "v0.1.0-rc"}, {Path: "b", Ver: "v0.1.0"}, {Path: "v2", Ver: "v0.9.9"},
	{Path: "v2", Ver: "v1.0.0"}, {Path: "v2/v3", Ver: "v3.0.0"},
}

func TestModulesThatAreRight(t *testing.T) {
	for _, m := range rising {
		if err := mod.Check(m); err != nil {
			t.Errorf("Check(%v): %v", m, err)
		}
		s := m.Path + "@" + m.Ver
		if got := mod.Text(m); got != s {
			t.Errorf("Text(%v): %q", m, got)
		}
		if got, err := mod.Read(s); got != m || err != nil {
			t.Errorf("Read(%q): %v, %v", s, got, err)
		}
	}
}

func TestModulesThatAreWrong(t *testing.T) {
	for _, c := range []struct {
		path, ver string
		err       error
	}{
		{"", "", api.ErrText}, {"", "v1.0.0", api.ErrText}, {"a", "", api.ErrText}, {"a", "latest", api.ErrText}, {"a", "v1", api.ErrText},
		{"a", "1.0.0", api.ErrText}, {"A", "v1.0.0", api.ErrText}, {"a/", "v1.0.0", api.ErrText}, {"a", "v1.0.0-", api.ErrText},
		{"a", "v1000000.0.0", api.ErrBound}, {"a", "v0.0.1000000", api.ErrBound}, {"a/v2", "v1000000.0.0", api.ErrBound},
		{"elevenchars", "v1.0.0", api.ErrBound}, {"a/b/c/d/e/f", "v1.0.0", api.ErrBound}, {"a", "v1.0.0-a.b.c.d.e.f", api.ErrBound},
		{"a/v1", "v1.0.0", api.ErrMajor}, {"a/v0", "v0.0.0", api.ErrMajor}, {"a/v02", "v2.0.0", api.ErrMajor}, {"a/v1000000", "v1.0.0", api.ErrMajor},
		{"a", "v2.0.0", api.ErrMajor}, {"a/b", "v2.0.1", api.ErrMajor}, {"a", "v999999.0.0", api.ErrMajor}, {"v2", "v2.0.0", api.ErrMajor},
		{"a/v2", "v0.0.0", api.ErrMajor}, {"a/v2", "v1.0.0", api.ErrMajor}, {"a/v2", "v3.0.0", api.ErrMajor}, {"a/v2", "v20.0.0", api.ErrMajor},
		{"a/v2/b", "v2.0.0", api.ErrMajor}, {"a", "v2.0.0-rc.1", api.ErrMajor}, {"a/v2", "v1.9.9-rc.1", api.ErrMajor},

		// Wrong in the path and in the version: the path's error is told.
		{"A", "v1000000.0.0", api.ErrText}, {"elevenchars", "x", api.ErrBound}, {"a/v1", "x", api.ErrMajor}, {"a/v1", "v1000000.0.0", api.ErrMajor},
	} {
		m := api.Mod{Path: c.path, Ver: c.ver}
		if err := mod.Check(m); err != c.err {
			t.Errorf("Check(%v): %v, not %v", m, err, c.err)
		}
		if s := mod.Text(m); s != "" {
			t.Errorf("Text(%v): %q", m, s)
		}
		if got, err := mod.Read(c.path + "@" + c.ver); got != (api.Mod{}) || err != c.err {
			t.Errorf("Read(%q@%q): %v, %v, not %v", c.path, c.ver, got, err, c.err)
		}
	}
}

func TestCheckOfEachMajor(t *testing.T) {
	for major := range 30 {
		version := "v" + strconv.Itoa(major) + ".0.0"
		if err := mod.Check(api.Mod{Path: "a", Ver: version}); (err == nil) != (major < 2) {
			t.Errorf("a %s: %v", version, err)
		}
		for n := 2; n < 30; n++ {
			m := api.Mod{Path: "a/v" + strconv.Itoa(n), Ver: version}
			if err := mod.Check(m); (err == nil) != (n == major) {
				t.Errorf("%v: %v", m, err)
			}
		}
	}
}

func TestReadOfOtherThanOneAt(t *testing.T) {
	// Most of them are wrong in other ways too, which are not told.
	for _, s := range []string{
		"", "a", "v1.0.0", "@@", "a@@v1.0.0", "a@v1.0.0@", "@a@v1.0.0", "a@v1.0.0@v1.0.0", "a/v1", "elevenchars", "a/v1@v1.0.0@",
		"elevenchars@@", "a@v1000000.0.0@", strings.Repeat("@", 1000), "a v1.0.0", "a\uff20v1.0.0",
	} {
		if m, err := mod.Read(s); m != (api.Mod{}) || err != api.ErrText {
			t.Errorf("Read(%.40q): %v, %v", s, m, err)
		}
	}
}

func TestAModuleIsReadAsItWasWritten(t *testing.T) {
	versions := []string{"v0.0.0", "v0.0.1-a.1", "v1.20.3", "v1.2.3-rc.2", "v2.0.0", "v2.0.0-0", "v13.0.1", "v999999.999999.999999"}
	texts := 0
	for _, c := range paths {
		for _, v := range versions {
			m := api.Mod{Path: c.path, Ver: v}
			s := mod.Text(m)
			if (s == "") != (mod.Check(m) != nil) {
				t.Errorf("Text(%v): %q", m, s)
			}
			if s == "" {
				continue
			}
			texts++
			if got, err := mod.Read(s); got != m || err != nil {
				t.Errorf("%v is read as %v, %v", m, got, err)
			}
		}
	}
	if texts == 0 {
		t.Error("no module among them")
	}
	samples.EachText("a@v1.0", 8, func(s string) {
		if m, err := mod.Read(s); err == nil && mod.Text(m) != s {
			t.Errorf("%q is written as %q", s, mod.Text(m))
		}
	})
}

func TestAheadOfModules(t *testing.T) {
	for i, a := range rising {
		for k, b := range rising {
			if mod.Ahead(a, b) != (i < k) {
				t.Errorf("Ahead(%v, %v): %v", a, b, i >= k)
			}
		}
	}
}

func TestAheadOfAnything(t *testing.T) {
	texts := []string{"", "x", "A", "a", "a/v2", "\xff", "v1", "v1.0.0", "v1.2.0", "v1.10.0", "v1000000.0.0", "@"}
	for _, p := range texts {
		for _, q := range texts {
			for _, v := range texts {
				for _, w := range texts {
					want := p < q || p == q && ver.Less(v, w)
					if mod.Ahead(api.Mod{Path: p, Ver: v}, api.Mod{Path: q, Ver: w}) != want {
						t.Errorf("Ahead(%q %q, %q %q): %v", p, v, q, w, !want)
					}
				}
			}
		}
	}
}

func TestAheadSorts(t *testing.T) {
	l := slices.Clone(rising)
	slices.Reverse(l)
	slices.SortFunc(l, func(a, b api.Mod) int {
		switch {
		case mod.Ahead(a, b):
			return -1
		case mod.Ahead(b, a):
			return 1
		}
		return 0
	})
	if !slices.Equal(l, rising) {
		t.Errorf("sorted: %v", l)
	}
}

func TestCheckReqs(t *testing.T) {
	for _, c := range []struct {
		reqs string
		err  error
		at   int
	}{
		{"", nil, -1}, {"a/v2@v2.0.0 b@v1.0.0 c@v0.1.0", nil, -1}, {"b@v1.0.0 c@v2.0.0", api.ErrMajor, 1}, {"a@v1.0.0", api.ErrShape, 0},
		{"b@v1.0.0 b@v1.1.0", api.ErrOrder, 1}, {"c@v1.0.0 b@v1.0.0 x@", api.ErrOrder, 1}, {"b@v1.0.0 a@v1.0.0", api.ErrShape, 1},
		{"b@v1.0.0 a@v1", api.ErrText, 1},
	} {
		if err := mod.CheckReqs("a", samples.Mods(c.reqs)); !samples.SameFault(err, c.err, c.at) {
			t.Errorf("CheckReqs of %q: %#v, not %v at %d", c.reqs, err, c.err, c.at)
		}
	}
}
