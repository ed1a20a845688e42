package file_test

import (
	"fmt"
	"reflect"
	"regexp"
	"slices"
	"strings"
	"testing"

	"pewholder/api"
	"pewholder/file"
	"pewholder/mod"
	"pewholder/plain"
	"pewholder/samples"
)

func fileOf(path, reqs, exclude string) api.File {
	return api.File{Path: path, Reqs: samples.Mods(reqs), Exclude: samples.Mods(exclude)}
}

// sameFile takes a nil list and an empty one as one thing.
func sameFile(a, b api.File) bool {
	return a.Path == b.Path && slices.Equal(a.Reqs, b.Reqs) && slices.Equal(a.Exclude, b.Exclude)
}

// longest is as long as a right file gets.
func longest() api.File {
	head := strings.Repeat("abcdefghij/", 4)
	version := "v999999.999999.999999" + "-" + strings.Repeat("abcdefgh.", 4) + "abcdefgh"
	f := api.File{Path: head + "abcdefghij"}
	for i := range api.MaxReqs {
		f.Reqs = append(f.Reqs, api.Mod{Path: fmt.Sprintf("r%09d/", i) + head[:33] + "v999999", Ver: version})
		f.Exclude = append(f.Exclude, api.Mod{Path: fmt.Sprintf("s%09d/", i) + head[:33] + "v999999", Ver: version})
	}
	return f
}

// rightFiles are right, each with its text.
var rightFiles = []struct {
	f    api.File
	text string
}{
	{fileOf("main", "", ""), "module main\n"},
	{api.File{Path: "a", Reqs: []api.Mod{}, Exclude: []api.Mod{}}, "module a\n"},
	{fileOf("a/v2", "", ""), "module a/v2\n"},
	{fileOf("module", "exclude@v1.0.0 require@v1.0.0", "module@v1.0.0"), "module module\nrequire exclude v1.0.0\nrequire require v1.0.0\nexclude module v1.0.0\n"},
	{fileOf("a", "b@v0.1.0", ""), "module a\nrequire b v0.1.0\n"},
	{fileOf("a", "", "b@v0.1.0"), "module a\nexclude b v0.1.0\n"},
	{fileOf("b", "a@v1.0.0 c@v1.0.0-rc.1", ""), "module b\nrequire a v1.0.0\nrequire c v1.0.0-rc.1\n"},

	// The file's own path with a suffix is another path; and its own path may be excluded.
	{fileOf("a", "a/v2@v2.0.0 a/v3@v3.0.0", "a@v1.0.0"), "module a\nrequire a/v2 v2.0.0\nrequire a/v3 v3.0.0\nexclude a v1.0.0\n"},

	// Paths rise by their bytes, versions by what they are.
	{fileOf("x", "a@v1.0.0 a-b@v0.0.0 a.b@v0.0.0 a/b@v0.0.0 a/v10@v10.0.0 a/v2@v2.0.0 a0@v0.0.0", ""),
		"module x\nrequire a v1.0.0\nrequire a-b v0.0.0\nrequire a.b v0.0.0\nrequire a/b v0.0.0\nrequire a/v10 v10.0.0\nrequire a/v2 v2.0.0\nrequire a0 v0.0.0\n"},
	{fileOf("x", "a@v1.8.0", "a@v1.9.0-rc.2 a@v1.9.0-rc.10 a@v1.9.0 a@v1.10.0 b@v0.0.1"),
		"module x\nrequire a v1.8.0\nexclude a v1.9.0-rc.2\nexclude a v1.9.0-rc.10\nexclude a v1.9.0\nexclude a v1.10.0\nexclude b v0.0.1\n"},
}

func TestFilesThatAreRight(t *testing.T) {
	for _, c := range rightFiles {
		if err := file.Check(c.f); err != nil {
			t.Errorf("Check(%v): %v", c.f, err)
		}
		if s := file.Text(c.f); s != c.text {
			t.Errorf("Text(%v): %q", c.f, s)
		}
		if f, err := file.Read(c.text); !sameFile(f, c.f) || err != nil {
			t.Errorf("Read(%q): %v, %v", c.text, f, err)
		}
	}
}

func TestFilesThatAreFull(t *testing.T) {
	for _, f := range []api.File{fileOf("a", samples.Row(20), ""), fileOf("a", "", samples.Row(20)), longest()} {
		s := file.Text(f)
		if err := file.Check(f); err != nil || s == "" {
			t.Errorf("Check(%v): %v, %q", f, err, s)
		}
		if got, err := file.Read(s); !sameFile(got, f) || err != nil {
			t.Errorf("Read(%q): %v, %v", s, got, err)
		}
	}
}

// wrongFiles have the error that is told, and its place (-1: none).
var wrongFiles = []struct {
	f   api.File
	err error
	at  int
}{
	{fileOf("", "", ""), api.ErrText, -1}, {fileOf("A", "", ""), api.ErrText, -1}, {fileOf("a b", "", ""), api.ErrText, -1},
	{fileOf("a\n", "", ""), api.ErrText, -1}, {fileOf("a/...", "", ""), api.ErrText, -1}, {fileOf("elevenchars", "", ""), api.ErrBound, -1},
	{fileOf("a/b/c/d/e/f", "", ""), api.ErrBound, -1}, {fileOf("a/v1", "", ""), api.ErrMajor, -1},

	// The path comes ahead of all else, then the counts.
	{fileOf("", samples.Row(21), samples.Row(21)), api.ErrText, -1}, {fileOf("a/v1", "x@", ""), api.ErrMajor, -1},
	{fileOf("a", samples.Row(21), ""), api.ErrFull, -1}, {fileOf("a", "", samples.Row(21)), api.ErrFull, -1}, {fileOf("a", samples.Row(20), samples.Row(21)), api.ErrFull, -1},
	{fileOf("a", "a@ "+samples.Row(20), ""), api.ErrFull, -1}, {fileOf("a", "x@", samples.Row(21)), api.ErrFull, -1}, {fileOf("a", samples.Row(1000), ""), api.ErrFull, -1},

	{fileOf("a", "x", ""), api.ErrText, 0}, {fileOf("a", "@v1.0.0", ""), api.ErrText, 0}, {fileOf("a", "b@v1.0.0 c@v1", ""), api.ErrText, 1},
	{fileOf("a", "b@v1.0.0 elevenchars@v1.0.0", ""), api.ErrBound, 1}, {fileOf("a", "b@v1.0.0 c@v1.0.0 d@v2.0.0", ""), api.ErrMajor, 2},
	{fileOf("a", "b@v1.0.0 c/v2@v1.0.0", ""), api.ErrMajor, 1}, {fileOf("a", samples.Row(19)+" z@v2.0.0", ""), api.ErrMajor, 19},
	{fileOf("a", "a@v1.0.0", ""), api.ErrShape, 0}, {fileOf("b", "a@v1.0.0 b@v1.0.0 c@v1.0.0", ""), api.ErrShape, 1},
	{fileOf("a/v2", "a@v1.0.0 a/v2@v2.0.0", ""), api.ErrShape, 1}, {fileOf("a", "c@v1.0.0 b@v1.0.0", ""), api.ErrOrder, 1},
	{fileOf("a", "b@v1.0.0 b@v1.0.0", ""), api.ErrOrder, 1}, {fileOf("a", "b@v1.0.0 b@v1.1.0", ""), api.ErrOrder, 1},
	{fileOf("a", "b@v1.0.0 c@v1.0.0 b/c@v1.0.0", ""), api.ErrOrder, 2}, {fileOf("x", "a/v2@v2.0.0 a/v10@v10.0.0", ""), api.ErrOrder, 1},

	// Of one requirement: in this order; of several: the first that is wrong, in whatever way.
	{fileOf("a", "a@v2.0.0", ""), api.ErrMajor, 0}, {fileOf("a", "b@v1.0.0 a@v2.0.0", ""), api.ErrMajor, 1},
	{fileOf("a", "b@v1.0.0 a@v1.0.0", ""), api.ErrShape, 1}, {fileOf("a", "b@v1.0.0 b@v2.0.0", ""), api.ErrMajor, 1},
	{fileOf("a", "c@v1.0.0 b@v1.0.0 x@", ""), api.ErrOrder, 1}, {fileOf("a", "a@v1.0.0 x@", ""), api.ErrShape, 0},
	{fileOf("a", "c@v1.0.0 b@v1.0.0 a@v1.0.0", ""), api.ErrOrder, 1}, {fileOf("a", "c@v2.0.0 a@v1.0.0", ""), api.ErrMajor, 0},

	{fileOf("a", "", "x"), api.ErrText, 0}, {fileOf("a", "", "b@v1.0.0 c@v1"), api.ErrText, 1}, {fileOf("a", "", "b@v0.0.1000000"), api.ErrBound, 0},
	{fileOf("a", "", "b@v1.0.0 c@v2.0.0"), api.ErrMajor, 1}, {fileOf("a", "", "b@v1.0.0 b@v1.0.0"), api.ErrOrder, 1},
	{fileOf("a", "", "b@v1.10.0 b@v1.9.0"), api.ErrOrder, 1}, {fileOf("a", "", "b@v1.0.0 b@v1.0.0-rc"), api.ErrOrder, 1},
	{fileOf("a", "", "c@v1.0.0 b@v1.1.0"), api.ErrOrder, 1}, {fileOf("a", "", "c@v1.0.0 b@v2.0.0"), api.ErrMajor, 1},
	{fileOf("a", "", "c@v1.0.0 b@v1.0.0 x@"), api.ErrOrder, 1}, {fileOf("a", "", samples.Row(19)+" z@v2.0.0"), api.ErrMajor, 19},

	{fileOf("a", "b@v1.0.0", "b@v1.0.0"), api.ErrClash, 0}, {fileOf("a", "b@v1.0.0 c@v1.0.0", "c@v1.0.0"), api.ErrClash, 1},
	{fileOf("a", "b@v1.0.0 c@v1.0.0 d@v1.0.0", "b@v0.9.0 c@v1.0.0 d@v1.0.0"), api.ErrClash, 1},
	{fileOf("a", "b@v1.0.0", "a@v1.0.0 b@v0.9.0 b@v1.0.0"), api.ErrClash, 0},

	// Requirements ahead of what is excluded, and both ahead of a clash.
	{fileOf("a", "b@v1.0.0 b@v1.0.0", "x@"), api.ErrOrder, 1}, {fileOf("a", "b@v1.0.0 a@v1.0.0", "b@v1.0.0"), api.ErrShape, 1},
	{fileOf("a", "b@v1.0.0", "b@v1.0.0 b@v1.0.0"), api.ErrOrder, 1}, {fileOf("a", "b@v1.0.0", "b@v1.0.0 x@"), api.ErrText, 1},
}

func TestFilesThatAreWrong(t *testing.T) {
	for _, c := range wrongFiles {
		if err := file.Check(c.f); !samples.SameFault(err, c.err, c.at) {
			t.Errorf("Check(%v): %#v, not %v at %d", c.f, err, c.err, c.at)
		}
		if s := file.Text(c.f); s != "" {
			t.Errorf("Text(%v): %q", c.f, s)
		}
		if f, err := file.Set(c.f, api.Mod{Path: "b", Ver: "v1.0.0"}); !reflect.DeepEqual(f, api.File{}) || err != c.err {
			t.Errorf("Set(%v): %v, %v", c.f, f, err)
		}
		if f, err := file.Drop(c.f, "b"); !reflect.DeepEqual(f, api.File{}) || err != c.err {
			t.Errorf("Drop(%v): %v, %v", c.f, f, err)
		}
	}
}

// wantOfCheck tells the same as Check: of all that is wrong it takes what stands ahead in the document.
func wantOfCheck(f api.File) (error, int) {
	type fault struct {
		step, at, rank int
		err            error
	}
	var all []fault
	add := func(holds bool, x fault) {
		if holds {
			all = append(all, x)
		}
	}
	for i, m := range f.Reqs {
		err := mod.Check(m)
		add(err != nil, fault{0, i, 0, err})
		add(m.Path == f.Path, fault{0, i, 1, api.ErrShape})
		add(i > 0 && f.Reqs[max(i, 1)-1].Path >= m.Path, fault{0, i, 2, api.ErrOrder})
		add(slices.Contains(f.Exclude, m), fault{2, i, 0, api.ErrClash})
	}
	for i, m := range f.Exclude {
		err := mod.Check(m)
		add(err != nil, fault{1, i, 0, err})
		add(i > 0 && !mod.Ahead(f.Exclude[max(i, 1)-1], m), fault{1, i, 1, api.ErrOrder})
	}
	if len(all) == 0 {
		return nil, -1
	}
	first := slices.MinFunc(all, func(a, b fault) int {
		return slices.Compare([]int{a.step, a.at, a.rank}, []int{b.step, b.at, b.rank})
	})
	return first.err, first.at
}

func TestCheckAndTextOfManyFiles(t *testing.T) {
	of := samples.Mods("a@v1.0.0 b@v1.0.0 b@v1.1.0 c@v1.0.0 c@v2.0.0 d@x")
	seen := map[error]int{}
	samples.EachList(of, 3, func(reqs []api.Mod) {
		samples.EachList(of, 3, func(exclude []api.Mod) {
			f := api.File{Path: "a", Reqs: reqs, Exclude: exclude}
			want, at := wantOfCheck(f)
			seen[want]++
			if err := file.Check(f); !samples.SameFault(err, want, at) {
				t.Fatalf("Check(%v): %#v, not %v at %d", f, err, want, at)
			}
			if s := file.Text(f); (s != "") != (want == nil) {
				t.Fatalf("Text(%v): %q", f, s)
			}
		})
	})
	for _, err := range []error{nil, api.ErrText, api.ErrMajor, api.ErrShape, api.ErrOrder, api.ErrClash} {
		if seen[err] == 0 {
			t.Errorf("no file with %v", err)
		}
	}
}

func TestReadTellsWrongLines(t *testing.T) {
	for _, c := range []struct {
		text string
		at   int
	}{
		{"", 0}, {"\n", 0}, {" \n", 0}, {"m", 0}, {"module", 0}, {"module\n", 0}, {"module a", 0}, {"module a ", 0}, {"module a \n", 0},
		{"module  a\n", 0}, {" module a\n", 0}, {"module a b\n", 0}, {"modul a\n", 0}, {"Module a\n", 0}, {"module\ta\n", 0}, {"\nmodule a\n", 0},
		{"a\n", 0}, {"require b v1.0.0\n", 0}, {"exclude b v1.0.0\n", 0}, {"require b v1.0.0\nmodule a\n", 0}, {"module\na\n", 0},
		{"module a\n\n", 1}, {"module a\n ", 1}, {"module a\nmodule a\n", 1}, {"module a\nmodule b\n", 1}, {"module a\nrequire\n", 1},
		{"module a\nrequire b\n", 1}, {"module a\nrequire b v1.0.0", 1}, {"module a\nrequire b v1.0.0 \n", 1}, {"module a\n require b v1.0.0\n", 1},
		{"module a\nrequire b v1.0.0 x\n", 1}, {"module a\nrequire b@v1.0.0\n", 1}, {"module a\nrequire  b v1.0.0\n", 1}, {"module a\nrequired b v1.0.0\n", 1},
		{"module a\nexclude\n", 1}, {"module a\nexclude b\n", 1}, {"module a\nexclude b v1.0.0", 1}, {"module a\nexclude b v1.0.0 \n", 1},
		{"module a\n// b\n", 1}, {"module a\r\n\r\n", 1},
		{"module a\nrequire b v1.0.0\n\n", 2}, {"module a\nrequire b v1.0.0\nmodule a\n", 2}, {"module a\nexclude b v1.0.0\nrequire c v1.0.0\n", 2},
		{"module a\nexclude b v1.0.0\nexclude b v1.1.0\nrequire c v1.0.0\n", 3}, {"module a\nrequire b v1.0.0\nexclude b v1.1.0\nrequire c v1.0.0\n", 3},

		// A wrong line is told ahead of a wrong file, and the first wrong line ahead of others.
		{"module A\nrequire\n", 1}, {"module A\nrequire b x", 1}, {"module a\nrequire a v1.0.0\nwhat", 2}, {"modul a\nrequire\nwhat", 0},
		{"module a\n" + strings.Repeat("require b v1.0.0\n", 30) + "x\n", 31}, {strings.Repeat("\n", api.MaxText), 0},
		{strings.Repeat("x", api.MaxText), 0},
	} {
		if f, err := file.Read(c.text); !reflect.DeepEqual(f, api.File{}) || !samples.SameFault(err, api.ErrText, c.at) {
			t.Errorf("Read(%.60q): %v, %#v, not at %d", c.text, f, err, c.at)
		}
	}
}

func TestReadTellsWrongFiles(t *testing.T) {
	full := strings.Repeat("require b v1.0.0\n", 21)
	for _, c := range []struct {
		text string
		err  error
	}{
		// A word may be anything, also empty: that is the file's fault, not the line's.
		{"module \n", api.ErrText}, {"module A\n", api.ErrText}, {"module a\r\n", api.ErrText}, {"module \xff\n", api.ErrText}, {"module a\tb\n", api.ErrText},
		{"module a\nrequire  v1.0.0\n", api.ErrText}, {"module a\nrequire b \n", api.ErrText}, {"module a\nrequire  \n", api.ErrText},
		{"module a\nexclude  v1.0.0\n", api.ErrText}, {"module a\nexclude b \n", api.ErrText}, {"module a\nrequire b v1.0.0\r\n", api.ErrText},
		{"module a/v1\n", api.ErrMajor}, {"module elevenchars\n", api.ErrBound}, {"module a\nrequire b v1\n", api.ErrText},
		{"module a\nrequire b v2.0.0\n", api.ErrMajor}, {"module a\nrequire a v1.0.0\n", api.ErrShape}, {"module a\nrequire c v1.0.0\nrequire b v1.0.0\n", api.ErrOrder},
		{"module a\nexclude b v1.0.0\nexclude b v1.0.0\n", api.ErrOrder}, {"module a\nrequire b v1.0.0\nexclude b v1.0.0\n", api.ErrClash},
		{"module a\n" + full, api.ErrFull}, {"module a\n" + strings.ReplaceAll(full, "require", "exclude"), api.ErrFull},
		{"module A\n" + full, api.ErrText},
	} {
		if f, err := file.Read(c.text); !reflect.DeepEqual(f, api.File{}) || err != c.err {
			t.Errorf("Read(%.60q): %v, %#v, not %v", c.text, f, err, c.err)
		}
	}
}

func TestReadOfLongTexts(t *testing.T) {
	// As long as may be, and right but for the bounds of the path.
	most := "module " + strings.Repeat("a", api.MaxText-len("module \n")) + "\n"
	for _, c := range []struct {
		text string
		err  error
		at   int
	}{
		{most, api.ErrBound, -1}, {strings.Replace(most, "aa", "/A", 1), api.ErrText, -1}, {strings.Replace(most, "aa", "a ", 1), api.ErrText, 0},
		{most + "\n", api.ErrBound, -1}, {most + "x", api.ErrBound, -1}, {strings.Repeat("x", api.MaxText+1), api.ErrBound, -1},
		{"module a\n" + strings.Repeat("require b v1.0.0\n", 1000), api.ErrBound, -1}, {strings.Repeat("\n", 100000), api.ErrBound, -1},
	} {
		if f, err := file.Read(c.text); !reflect.DeepEqual(f, api.File{}) || !samples.SameFault(err, c.err, c.at) {
			t.Errorf("Read(%.60q) of %d: %v, %#v, not %v at %d", c.text, len(c.text), f, err, c.err, c.at)
		}
	}
}

// The lines of a file, told by a pattern over the whole text.
var linesOfFile = regexp.MustCompile(`^module [^ \n]*\n(require [^ \n]* [^ \n]*\n)*(exclude [^ \n]* [^ \n]*\n)*$`)

// wrongLine is the first one that can't stand behind those ahead (-1: none).
func wrongLine(s string) int {
	if s == "" {
		return 0
	}
	ahead, at := "", 0
	for line := range strings.Lines(s) {
		ahead += line
		if !linesOfFile.MatchString(ahead) {
			return at
		}
		at++
	}
	return -1
}

func TestReadOfManyTexts(t *testing.T) {
	pieces := []string{"module a\n", "module ", "a\n", "require b v1.0.0\n", "require c v1.0.0\n", "exclude b v1.0.0\n", "exclude b v1.1.0\n", "exclude c ", "\n", " "}
	read := 0
	samples.EachList(pieces, 5, func(l []string) {
		s := strings.Join(l, "")
		f, err := file.Read(s)
		at := wrongLine(s)
		_, gotAt := plain.Code(err)
		if gotAt != at || at >= 0 && !samples.SameFault(err, api.ErrText, at) {
			t.Fatalf("Read(%q): %v, %#v, not at %d", s, f, err, at)
		}
		if err == nil && file.Text(f) != s {
			t.Fatalf("%q is written as %q", s, file.Text(f))
		}
		if err != nil && !reflect.DeepEqual(f, api.File{}) {
			t.Fatalf("Read(%q): %v, %v", s, f, err)
		}
		if err == nil {
			read++
		}
	})
	if read < 10 {
		t.Errorf("only %d files among them", read)
	}
}

func TestAFileIsReadAsItWasWritten(t *testing.T) {
	of := samples.Mods("a@v0.1.0 b@v1.0.0-rc.2 b@v1.0.0 b/v2@v2.10.0 c@v1.0.0")
	written := 0
	samples.EachList(of, 4, func(reqs []api.Mod) {
		samples.EachList(of, 2, func(exclude []api.Mod) {
			f := api.File{Path: "main", Reqs: reqs, Exclude: exclude}
			s := file.Text(f)
			if s == "" {
				return
			}
			written++
			if got, err := file.Read(s); !sameFile(got, f) || err != nil {
				t.Fatalf("%v is read as %v, %v", f, got, err)
			}
		})
	})
	if written < 10 {
		t.Errorf("only %d files among them", written)
	}
}

func TestSet(t *testing.T) {
	f := fileOf("main", "b@v1.0.0 d@v1.0.0", "c@v1.1.0")
	for _, c := range []struct{ m, want string }{
		{"a@v0.1.0", "a@v0.1.0 b@v1.0.0 d@v1.0.0"}, {"c@v1.0.0", "b@v1.0.0 c@v1.0.0 d@v1.0.0"}, {"e@v1.0.0", "b@v1.0.0 d@v1.0.0 e@v1.0.0"},
		{"b@v1.2.0", "b@v1.2.0 d@v1.0.0"}, {"b@v0.1.0", "b@v0.1.0 d@v1.0.0"}, {"b@v1.0.0", "b@v1.0.0 d@v1.0.0"}, {"d@v1.0.0-rc", "b@v1.0.0 d@v1.0.0-rc"},
		{"b/v2@v2.0.0", "b@v1.0.0 b/v2@v2.0.0 d@v1.0.0"}, {"main/v2@v2.0.0", "b@v1.0.0 d@v1.0.0 main/v2@v2.0.0"},
	} {
		got, err := file.Set(f, samples.Mods(c.m)[0])
		if !sameFile(got, fileOf("main", c.want, "c@v1.1.0")) || err != nil {
			t.Errorf("Set %s: %v, %v", c.m, got, err)
		}
	}
	if got, err := file.Set(fileOf("main", "", ""), samples.Mods("a@v1.0.0")[0]); !sameFile(got, fileOf("main", "a@v1.0.0", "")) || err != nil {
		t.Errorf("Set of the first: %v, %v", got, err)
	}
}

func TestSetOfWhatCantBe(t *testing.T) {
	f := fileOf("main", "b@v1.0.0 d@v1.0.0", "c@v1.1.0 d@v1.2.0")
	full := fileOf("main", samples.Row(20), "a@v1.0.0")
	for _, c := range []struct {
		f   api.File
		m   string
		err error
	}{
		{f, "@", api.ErrText}, {f, "@v1.0.0", api.ErrText}, {f, "a@", api.ErrText}, {f, "b@", api.ErrText}, {f, "b@v1", api.ErrText}, {f, "Z@v1.0.0", api.ErrText},
		{f, "elevenchars@v1.0.0", api.ErrBound}, {f, "b@v1000000.0.0", api.ErrBound}, {f, "x@v2.0.0", api.ErrMajor}, {f, "b@v2.0.0", api.ErrMajor},
		{f, "x/v1@v1.0.0", api.ErrMajor}, {f, "main@v1.0.0", api.ErrShape}, {f, "main@v2.0.0", api.ErrMajor}, {f, "c@v1.1.0", api.ErrClash},
		{f, "d@v1.2.0", api.ErrClash},

		// One more than may be: told ahead of what else is wrong; another version is no more.
		{full, "b@v1.0.0", api.ErrFull}, {full, "a@v1.0.0", api.ErrFull}, {full, "main@v1.0.0", api.ErrFull}, {full, "@", api.ErrFull},
		{full, "r000@v2.0.0", api.ErrMajor}, {full, "r000@v1.1.0", nil}, {fileOf("main", samples.Row(19), ""), "b@v1.0.0", nil},
	} {
		got, err := file.Set(c.f, samples.Mods(c.m)[0])
		if err != c.err || (err != nil) != reflect.DeepEqual(got, api.File{}) {
			t.Errorf("Set %s: %v, %#v, not %v", c.m, got, err, c.err)
		}
	}
}

func TestDrop(t *testing.T) {
	f := fileOf("main", "b@v1.0.0 c@v1.0.0 d@v1.0.0", "c@v1.1.0 e@v1.0.0")
	for _, c := range []struct{ path, want string }{
		{"b", "c@v1.0.0 d@v1.0.0"}, {"c", "b@v1.0.0 d@v1.0.0"}, {"d", "b@v1.0.0 c@v1.0.0"},
	} {
		got, err := file.Drop(f, c.path)
		if !sameFile(got, fileOf("main", c.want, "c@v1.1.0 e@v1.0.0")) || err != nil {
			t.Errorf("Drop %s: %v, %v", c.path, got, err)
		}
	}
	for _, path := range []string{"", "a", "e", "main", "b/v2", "bb", "B", "b@v1.0.0", "z", "elevenchars", "\xff"} {
		if got, err := file.Drop(f, path); !reflect.DeepEqual(got, api.File{}) || err != api.ErrNone {
			t.Errorf("Drop %q: %v, %#v", path, got, err)
		}
	}
	if got, err := file.Drop(api.File{Path: "main"}, "a"); !reflect.DeepEqual(got, api.File{}) || err != api.ErrNone {
		t.Errorf("Drop of the only path: %v, %#v", got, err)
	}
	if got, err := file.Drop(fileOf("main", "a@v1.0.0", ""), "a"); !sameFile(got, api.File{Path: "main"}) || err != nil {
		t.Errorf("Drop of the last: %v, %v", got, err)
	}
}

func TestSetAndDropGoTogether(t *testing.T) {
	of := samples.Mods("a@v1.0.0 b@v1.0.0 c@v1.0.0 c@v1.1.0 d@v1.0.0")
	samples.EachList(of, 4, func(l []api.Mod) {
		f := api.File{Path: "main"}
		last := map[string]api.Mod{}
		for _, m := range l {
			f, _ = file.Set(f, m)
			last[m.Path] = m
		}
		if len(f.Reqs) != len(last) || file.Check(f) != nil {
			t.Fatalf("set %v: %v", l, f)
		}
		for _, m := range f.Reqs {
			if last[m.Path] != m {
				t.Fatalf("set %v: %v", l, f)
			}
			less, err := file.Drop(f, m.Path)
			if err != nil || len(less.Reqs) != len(f.Reqs)-1 {
				t.Fatalf("Drop(%v, %s): %v, %v", f, m.Path, less, err)
			}
			if again, err := file.Set(less, m); !sameFile(again, f) || err != nil {
				t.Fatalf("Set(%v, %v): %v, %v", less, m, again, err)
			}
		}
	})
}

// spare has room behind each list's length, with something in it.
func spare(f api.File) api.File {
	behind := samples.Mods("behind@v1.0.0 behind@v1.0.0")
	return api.File{Path: f.Path, Reqs: samples.Spare(f.Reqs, behind...), Exclude: samples.Spare(f.Exclude, behind...)}
}

// whole is what a file's lists hold, also behind their lengths.
func whole(f api.File) string {
	return fmt.Sprint(f.Path, f.Reqs[:cap(f.Reqs)], f.Exclude[:cap(f.Exclude)])
}

func TestAnswersAreNewMemory(t *testing.T) {
	for _, reqs := range []string{"", "b@v1.0.0", "b@v1.0.0 d@v1.0.0"} {
		f := spare(fileOf("main", reqs, "e@v1.0.0 e@v1.1.0"))
		before := whole(f)
		var answers []api.File
		for _, m := range samples.Mods("a@v1.0.0 b@v1.1.0 c@v1.0.0 f@v1.0.0 e@v1.0.0 x@") {
			if got, err := file.Set(f, m); err == nil {
				answers = append(answers, got)
			}
		}
		for _, path := range []string{"b", "d", "x"} {
			if got, err := file.Drop(f, path); err == nil {
				answers = append(answers, got)
			}
		}
		for _, got := range answers {
			for _, l := range [][]api.Mod{got.Reqs[:cap(got.Reqs)], got.Exclude[:cap(got.Exclude)]} {
				for i := range l {
					l[i] = api.Mod{Path: "written", Ver: "over"}
				}
			}
		}
		file.Check(f)
		file.Text(f)
		if whole(f) != before {
			t.Errorf("it was %s, and is %s", before, whole(f))
		}
	}
}
