package script_test

import (
	"fmt"
	"hash/crc32"
	"slices"
	"strings"
	"testing"

	"pewholder/api"
	"pewholder/samples"
	"pewholder/script"
)

// exchange is a line, and what is to be answered to it: `!` stands for what each error's text begins with.
type exchange struct{ line, want string }

// some has newer ones that require more, one with a Pre, and one that is taken back; packages of paths inside one another; and a ring of paths.
var some = []string{
	"entry c@v1.0.0 - -",
	"entry b@v1.0.0 - .,a",
	"entry b@v1.1.0 c@v1.0.0 -,.",
	"entry a@v1.1.0 b@v1.1.0 .,b,x/y",
	"entry a@v1.0.0 b@v1.0.0 .",
	"entry a/b@v0.1.0 a@v1.0.0 .,c",
	"entry a@v1.2.0 - z",
	"back a@v1.2.0",
	"entry c@v1.1.0-rc a@v1.1.0 .",
	"entry a/v2@v2.0.0 a@v1.0.0,c@v1.1.0-rc -",
}

func told(want string) string {
	if rest, wrong := strings.CutPrefix(want, "!"); wrong {
		return "pewholder: " + rest
	}
	return want
}

// answers of lines, which are few enough.
func answers(t *testing.T, lines []string) []string {
	t.Helper()
	got, err := script.Run(lines)
	if err != nil || len(got) != len(lines) {
		t.Fatalf("%q: %q, %v", lines, got, err)
	}
	return got
}

// check holds the answers to lines that come behind others.
func check(t *testing.T, ahead []string, l ...exchange) {
	t.Helper()
	lines := slices.Clone(ahead)
	for _, x := range l {
		lines = append(lines, x.line)
	}
	got := answers(t, lines)[len(ahead):]
	for i, x := range l {
		if got[i] != told(x.want) {
			t.Errorf("%d %.200q: %q, not %q", i, x.line, got[i], told(x.want))
		}
	}
}

// behind is lines, and more of them.
func behind(ahead []string, more ...string) []string {
	return append(slices.Clone(ahead), more...)
}

func crc(text string) string {
	return fmt.Sprint(crc32.ChecksumIEEE([]byte(text)))
}

func TestSomeAreRight(t *testing.T) {
	for i, answer := range answers(t, some) {
		if answer != "ok" {
			t.Errorf("%q: %q", some[i], answer)
		}
	}
}

func TestAtFirstThereIsNothing(t *testing.T) {
	check(t, nil,
		exchange{"show", "module main;"}, exchange{"list", "nothing"}, exchange{"up", "nothing"}, exchange{"news", "nothing"}, exchange{"packs", "nothing"}, exchange{"sums", "nothing"},
		exchange{"get", "nothing"}, exchange{"get ...", "nothing"}, exchange{"get ...@none", "nothing"}, exchange{"get a", "!none"}, exchange{"why a@v1.0.0", "!none"}, exchange{"which a", "!none"}, exchange{"back a@v1.0.0", "!none"}, exchange{"show", "module main;"},
	)
	for _, lines := range [][]string{nil, {}} {
		if got, err := script.Run(lines); len(got) > 0 || err != nil {
			t.Errorf("of no lines: %q, %v", got, err)
		}
	}
}

// An index is right only if each entry comes to its place: in whatever order they are told.
func TestEntriesComeWhereTheyBelong(t *testing.T) {
	words := strings.Fields("a-b@v1.0.0 a/v2@v2.0.0 a@v1.10.0 a@v1.10.0-rc a@v1.9.0")
	orders := 0
	samples.EachList(words, len(words), func(l []string) {
		if len(slices.Compact(slices.Sorted(slices.Values(l)))) < len(words) {
			return
		}
		orders++
		var lines []string
		for _, word := range l {
			lines = append(lines, "entry "+word+" - .")
		}
		check(t, nil, slices.Concat(exchanges(lines, "ok"), []exchange{
			{"get a@<v1.10.0 a/v2 a-b", "a@v1.9.0 a-b@v1.0.0 a/v2@v2.0.0"}, {"news", "a@v1.10.0"}, {"packs", "a a-b a/v2"}, {"get a@>v1.9.0", "a@v1.10.0 a-b@v1.0.0 a/v2@v2.0.0"}, {"get a@<v1.10.0 ", "!text"}, {"back a@v1.10.0", "ok"}, {"get a@latest", "a@v1.9.0 a-b@v1.0.0 a/v2@v2.0.0"}, {"get a@v1.10.0-rc", "a@v1.10.0-rc a-b@v1.0.0 a/v2@v2.0.0"},
		})...)
	})
	if orders != 120 {
		t.Errorf("%d orders", orders)
	}
}

// exchanges is lines that all have one answer.
func exchanges(lines []string, want string) []exchange {
	var l []exchange
	for _, line := range lines {
		l = append(l, exchange{line, want})
	}
	return l
}

// many is as many entries as one may require, and one more; and a list of the first ones, a comma between.
func many(n int) ([]string, string) {
	mods := strings.Fields(samples.Row(api.MaxReqs + 1))
	var lines []string
	for _, m := range mods {
		lines = append(lines, "entry "+m+" - -")
	}
	return lines, strings.Join(mods[:n], ",")
}

func TestEntriesAsFullAsMayBe(t *testing.T) {
	for n, want := range map[int]string{1: "ok", 19: "ok", 20: "ok", 21: "!full"} {
		lines, reqs := many(n)
		check(t, lines, exchange{"entry a@v1.0.0 " + reqs + " -", want})
	}
	for packs, want := range map[string]string{".,1,2,3,4,5,6,7,8,9": "ok", ".,0,1,2,3,4,5,6,7,8,9": "!full", "-,-x,.,.x,a,a/b/c/d/v2,a_,ab,b": "ok", "-,.": "ok", "a,-": "!order"} {
		check(t, nil, exchange{"entry a@v1.0.0 - " + packs, want})
	}
}

// wrongEntries come behind some.
var wrongEntries = []exchange{
	// The module is read first.
	{"entry a - -", "!text"}, {"entry @ - -", "!text"}, {"entry @v1.0.0 - -", "!text"}, {"entry d@ - -", "!text"}, {"entry d@v1 - -", "!text"}, {"entry d@latest - -", "!text"}, {"entry D@v1.0.0 - -", "!text"}, {"entry d@v1.0.0@ - -", "!text"}, {"entry - - -", "!text"}, {"entry d/@v1.0.0 x A", "!text"}, {"entry d,e@v1.0.0 - -", "!text"}, {"entry d@v1.0.0,e@v1.0.0 - -", "!text"},
	{"entry elevenchars@v1.0.0 - -", "!bound"}, {"entry d@v1.0.1000000 b - ", "!text"}, {"entry d@v1.0.1000000 b -", "!bound"}, {"entry d@v2.0.0 b A", "!major"}, {"entry d/v1@v1.0.0 - -", "!major"}, {"entry d/v2@v1.0.0 - -", "!major"},

	// Then what it requires, all of it, ahead of what else is wrong.
	{"entry d@v1.0.0 b -", "!text"}, {"entry d@v1.0.0 @ -", "!text"}, {"entry d@v1.0.0 , -", "!text"}, {"entry d@v1.0.0 b@v1.0.0, -", "!text"}, {"entry d@v1.0.0 ,b@v1.0.0 -", "!text"}, {"entry d@v1.0.0 b@v1.0.0,,c@v1.0.0 -", "!text"}, {"entry d@v1.0.0 -,b@v1.0.0 -", "!text"}, {"entry d@v1.0.0 b@v1.0.0,- -", "!text"}, {"entry d@v1.0.0 -- -", "!text"}, {"entry d@v1.0.0 b@v1.0.0;c@v1.0.0 -", "!text"}, {"entry d@v1.0.0 nothing -", "!text"},
	{"entry d@v1.0.0 b@v1000000.0.0 A", "!bound"}, {"entry d@v1.0.0 b@v2.0.0 A", "!major"}, {"entry d@v1.0.0 b@v1.0.0,c@v2.0.0,x -", "!major"}, {"entry a@v1.0.0 b -", "!text"}, {"entry a@v1.0.0 b@v2.0.0 -", "!major"}, {"entry d@v1.0.0 c@v1.0.0,b@v1.0.0,x -", "!text"}, {"entry d@v1.0.0 d@v1.0.0,x -", "!text"}, {"entry d@v1.0.0 x@v1.0.0,x -", "!text"},

	// Then whether it is there, ahead of all that an index may be wrong in.
	{"entry a@v1.0.0 - -", "!exist"}, {"entry a@v1.0.0 b@v1.0.0 .", "!exist"}, {"entry a@v1.2.0 - z", "!exist"}, {"entry a/v2@v2.0.0 a@v1.1.0 -", "!exist"}, {"entry a@v1.0.0 a@v1.1.0 -", "!exist"}, {"entry a@v1.0.0 c@v1.0.0,b@v1.0.0 -", "!exist"}, {"entry a@v1.0.0 x@v1.0.0 -", "!exist"}, {"entry a@v1.0.0 - A", "!exist"}, {"entry a@v1.0.0 - b,a", "!exist"},

	// Then the index that would be.
	{"entry d@v1.0.0 d@v1.1.0 -", "!shape"}, {"entry a@v1.3.0 a@v1.0.0 -", "!shape"}, {"entry a@v1.3.0 a@v1.0.0 A", "!shape"}, {"entry d@v1.0.0 c@v1.0.0,b@v1.0.0 -", "!order"}, {"entry d@v1.0.0 b@v1.0.0,b@v1.1.0 -", "!order"}, {"entry d@v1.0.0 c@v1.0.0,b@v1.0.0 A", "!order"}, {"entry d@v1.0.0 x@v1.0.0,b@v1.0.0 -", "!order"},
	{"entry d@v1.0.0 - A", "!text"}, {"entry d@v1.0.0 - ,", "!text"}, {"entry d@v1.0.0 - a,", "!text"}, {"entry d@v1.0.0 - ,a", "!text"}, {"entry d@v1.0.0 - a,,b", "!text"}, {"entry d@v1.0.0 - ..", "!text"}, {"entry d@v1.0.0 - ./a", "!text"}, {"entry d@v1.0.0 - a/v1", "!text"}, {"entry d@v1.0.0 - elevenchars", "!text"}, {"entry d@v1.0.0 - a;b", "!text"}, {"entry d@v1.0.0 x@v1.0.0 A", "!text"}, {"entry d@v1.0.0 - b,a,A", "!text"},
	{"entry d@v1.0.0 - b,a", "!order"}, {"entry d@v1.0.0 - .,.", "!order"}, {"entry d@v1.0.0 - .,-", "!order"}, {"entry d@v1.0.0 x@v1.0.0 b,a", "!order"},
	{"entry d@v1.0.0 x@v1.0.0 -", "!none"}, {"entry d@v1.0.0 a@v1.0.0,b@v1.0.1 -", "!none"}, {"entry d@v1.0.0 a/v2@v2.0.1 .", "!none"}, {"entry d@v1.0.0 main@v1.0.0 -", "!none"},
}

func TestWrongEntries(t *testing.T) {
	for _, x := range wrongEntries {
		// What is wrong is not there afterwards, and what was there is as it was.
		check(t, behind(some, "get a@v1.1.0"), x, exchange{"get d", "!none"}, exchange{"back d@v1.0.0", "!none"}, exchange{"list", "a@v1.1.0 b@v1.1.0 c@v1.0.0"}, exchange{"packs", "a a/b a/x/y b b/-"}, exchange{"get a@v1.3", "!none"}, exchange{"entry d@v1.0.0 c@v1.0.0 -", "ok"}, exchange{"get d", "a@v1.1.0 b@v1.1.0 c@v1.0.0 d@v1.0.0"})
	}
}

func TestBack(t *testing.T) {
	check(t, some,
		exchange{"get a", "a@v1.1.0 b@v1.1.0 c@v1.0.0"}, exchange{"back a@v1.1.0", "ok"}, exchange{"back a@v1.1.0", "ok"}, exchange{"list", "a@v1.1.0 b@v1.1.0 c@v1.0.0"}, exchange{"get a", "a@v1.1.0 b@v1.1.0 c@v1.0.0"}, exchange{"get a@latest", "a@v1.0.0 b@v1.1.0 c@v1.0.0"},
		exchange{"back a@v1.0.0", "ok"}, exchange{"news", "a@v1.2.0"}, exchange{"up", "a@v1.2.0 b@v1.1.0 c@v1.0.0"},
		exchange{"back a@v1.3.0", "!none"}, exchange{"back a@v1.0.0-rc", "!none"}, exchange{"back d@v1.0.0", "!none"}, exchange{"back main@v1.0.0", "!none"}, exchange{"back a/v2@v2.0.1", "!none"},
		exchange{"back a@", "!text"}, exchange{"back @v1.0.0", "!text"}, exchange{"back A@v1.0.0", "!text"}, exchange{"back a@v1.0.0@", "!text"}, exchange{"back a@v1", "!text"}, exchange{"back -", "!text"}, exchange{"back ...", "!text"},
		exchange{"back elevenchars@v1.0.0", "!bound"}, exchange{"back a@v1000000.0.0", "!bound"}, exchange{"back a@v2.0.0", "!major"}, exchange{"back a/v2@v1.0.0", "!major"}, exchange{"back a/v1@v1.0.0", "!major"},
	)
}

func TestMain(t *testing.T) {
	for _, c := range []struct{ file, list string }{
		{"module main;", "nothing"}, {"module m/v2;", "nothing"}, {"module require;", "nothing"}, {"module a;require b v1.0.0;", "b@v1.0.0"}, {"module x;require a v1.0.0;require c v1.0.0;", "a@v1.0.0 b@v1.0.0 c@v1.0.0"},
		{"module x;require b v1.1.0;exclude a v1.0.0;exclude a v1.1.0;", "b@v1.1.0 c@v1.0.0"}, {"module x;exclude q v1.0.0;", "nothing"},

		// What it excludes is built still, where that is all that is asked for; what is not there is not.
		{"module x;require b v1.1.0;exclude c v1.0.0;", "b@v1.1.0 c@v1.0.0"}, {"module x;require b v1.2.0;", "!none"}, {"module x;require a v1.0.0;require q v1.0.0;", "!none"},

		// A file may require what requires its own path.
		{"module b;require a v1.1.0;", "a@v1.1.0 b@v1.1.0 c@v1.0.0"},
	} {
		check(t, behind(some, "get a"), exchange{"main " + c.file, "ok"}, exchange{"show", c.file}, exchange{"list", c.list})
	}
}

func TestWrongFiles(t *testing.T) {
	lines, _ := many(0)
	full := "module x;"
	for _, m := range samples.Mods(samples.Row(21)) {
		full += "require " + m.Path + " " + m.Ver + ";"
	}
	most := full[:strings.LastIndex(full, "require")]
	check(t, lines, exchange{"main " + most, "ok"}, exchange{"show", most}, exchange{"main " + full, "!full"}, exchange{"show", most}, exchange{"list", samples.Row(20)})
	for file, want := range map[string]string{
		"": "!text", ";": "!text", "-": "!text", "module": "!text", "module m": "!text", "module ;": "!text", "module m;;": "!text", ";module m;": "!text", " module m;": "!text", "module m; ": "!text", "module m ;": "!text", "module  m;": "!text", "module m n;": "!text", "module m;module m;": "!text", "require a v1.0.0;": "!text", "Module m;": "!text",
		"module m;require a;": "!text", "module m;require a@v1.0.0;": "!text", "module m;require a v1.0.0": "!text", "module m; require a v1.0.0;": "!text", "module m;exclude a v1.0.0;require a v1.1.0;": "!text", "module M;": "!text", "module m;require a v1;": "!text", "module m,require a v1.0.0;": "!text",
		"module elevenchars;": "!bound", "module m;require a v1000000.0.0;": "!bound", "module m/v1;": "!major", "module m;require a v2.0.0;": "!major", "module m;exclude a/v2 v1.0.0;": "!major", "module a;require a v1.0.0;": "!shape", "module m;require b v1.0.0;require a v1.0.0;": "!order", "module m;require a v1.0.0;require a v1.1.0;": "!order", "module m;exclude b v1.0.0;exclude b v1.0.0;": "!order", "module m;require a v1.0.0;exclude a v1.0.0;": "!clash",

		// It is too long, however wrong it is.
		strings.Repeat(";", 8001): "!bound", strings.Repeat(" ", 8001): "!bound", strings.Repeat(";", 8000): "!text", strings.Repeat("  m", 2667): "!bound", "module m;" + strings.Repeat("exclude a v1.0.0;", 500): "!bound",
	} {
		check(t, behind(some, "get a@v1.0.0"), exchange{"main " + file, want}, exchange{"show", "module main;require a v1.0.0;"}, exchange{"list", "a@v1.0.0 b@v1.0.0"})
	}
}

func TestGetChangesTheFile(t *testing.T) {
	check(t, some,
		exchange{"get a@v1.0.0", "a@v1.0.0 b@v1.0.0"}, exchange{"show", "module main;require a v1.0.0;"}, exchange{"get", "a@v1.0.0 b@v1.0.0"}, exchange{"get c@v1.0.0 b@v1.1", "a@v1.0.0 b@v1.1.0 c@v1.0.0"}, exchange{"show", "module main;require a v1.0.0;require b v1.1.0;"}, exchange{"list", "a@v1.0.0 b@v1.1.0 c@v1.0.0"},
		exchange{"get a@v1.2.0 c@none b", "!clash"}, exchange{"show", "module main;require a v1.0.0;require b v1.1.0;"}, exchange{"get c@none", "a@v1.0.0 b@v1.0.0"}, exchange{"show", "module main;require a v1.0.0;"}, exchange{"get ...@upgrade", "a@v1.1.0 b@v1.1.0 c@v1.0.0"}, exchange{"show", "module main;require a v1.1.0;"}, exchange{"get ...@none b@v1.0.0", "b@v1.0.0"}, exchange{"get ...@none", "nothing"}, exchange{"show", "module main;"},

		exchange{"main module x/v2;require b v1.0.0;exclude a v1.1.0;", "ok"}, exchange{"get a", "!clash"}, exchange{"get a@v1.0.0", "a@v1.0.0 b@v1.0.0"}, exchange{"show", "module x/v2;require a v1.0.0;exclude a v1.1.0;"}, exchange{"get ...@none", "nothing"}, exchange{"show", "module x/v2;exclude a v1.1.0;"},
	)
}

func TestWrongGets(t *testing.T) {
	for line, want := range map[string]string{
		"get d": "!none", "get main": "!none", "get a@v1.3.0": "!none", "get a@<v1.0.0": "!none", "get a d": "!none", "get a@v1.0.0 a@v1.1.0": "!clash", "get a b@v1.0.0": "!clash", "get A": "!text", "get a@": "!text", "get a@v1@": "!text", "get a@what": "!text", "get a,b": "!text", "get -": "!none", "get elevenchars": "!bound", "get a@v1000000": "!bound", "get a@v2.0.0": "!none",
		"get" + strings.Repeat(" a", 10): "a@v1.1.0 b@v1.1.0 c@v1.0.0", "get" + strings.Repeat(" a", 11): "!full", "get" + strings.Repeat(" A", 11): "!full", "get" + strings.Repeat(" a", 11) + " ": "!text", "get a  b": "!text", "get  a": "!text", "get a ": "!text", "get ": "!text", "get  ": "!text",
	} {
		show := "module main;require a v1.0.0;"
		if !strings.HasPrefix(want, "!") {
			show = "module main;require a v1.1.0;"
		}
		check(t, behind(some, "get a@v1.0.0"), exchange{line, want}, exchange{"show", show})
	}
	// What is wrong with the file's requirements is told ahead of what can't be got, and behind what can't be read.
	check(t, behind(some, "main module x;require b v1.2.0;"), exchange{"get", "!none"}, exchange{"get A", "!text"}, exchange{"get b@v1.0.0", "!none"}, exchange{"get a@v1.0.0 a@v1.1.0", "!none"}, exchange{"show", "module x;require b v1.2.0;"})
}

// A file that comes to require its own path is none that has a text, or that can be got from.
func TestAFileThatRequiresItself(t *testing.T) {
	check(t, behind(some, "main module a;", "get b@v1.0.0"), exchange{"get a", "a@v1.1.0 b@v1.1.0 c@v1.0.0"}, exchange{"show", ""}, exchange{"list", "a@v1.1.0 b@v1.1.0 c@v1.0.0"}, exchange{"why c@v1.0.0", "3"}, exchange{"get", "!shape"}, exchange{"get A", "!shape"}, exchange{"get ", "!text"}, exchange{"main module a;", "ok"}, exchange{"get", "nothing"})
}

// ofBuilds is what is told of a file, which comes behind some.
var ofBuilds = []struct {
	file string
	told []exchange
}{
	{"module main;", []exchange{
		{"list", "nothing"}, {"up", "nothing"}, {"news", "nothing"}, {"packs", "nothing"}, {"sums", "nothing"}, {"why a@v1.0.0", "!none"}, {"which a", "!none"}, {"which A", "!text"},
	}},
	{"module main;require a v1.0.0;", []exchange{
		{"list", "a@v1.0.0 b@v1.0.0"}, {"up", "a@v1.1.0 b@v1.1.0 c@v1.0.0"}, {"news", "a@v1.1.0 b@v1.1.0"}, {"packs", "a b b/a"}, {"sums", crc("a@v1.0.0\nb@v1.0.0\n/.\n") + " " + crc("b@v1.0.0\n/.\n/a\n")},
		{"why a@v1.0.0", "1"}, {"why b@v1.0.0", "2"}, {"why b@v1.1.0", "!none"}, {"why d@v1.0.0", "!none"}, {"why main@v1.0.0", "!none"}, {"which a", "a@v1.0.0"}, {"which b/a", "b@v1.0.0"}, {"which b/-", "!none"}, {"which a/b", "!none"}, {"which a/v1", "!none"}, {"which c", "!none"},
	}},
	{"module main;require a v1.1.0;require a/b v0.1.0;", []exchange{
		{"list", "a@v1.1.0 a/b@v0.1.0 b@v1.1.0 c@v1.0.0"}, {"up", "a@v1.1.0 a/b@v0.1.0 b@v1.1.0 c@v1.0.0"}, {"news", "nothing"}, {"packs", "a a/b a/b/c a/x/y b b/-"}, {"why c@v1.0.0", "3"}, {"why b@v1.0.0", "3"}, {"why a@v1.0.0", "2"}, {"why a@v1.1.0", "1"}, {"which a", "a@v1.1.0"}, {"which a/b", "a/b@v0.1.0"}, {"which a/b/c", "a/b@v0.1.0"}, {"which a/x/y", "a@v1.1.0"}, {"which b/a", "!none"}, {"which b/-", "b@v1.1.0"},
	}},
	{"module main;require a v1.2.0;", []exchange{
		{"list", "a@v1.2.0"}, {"up", "a@v1.2.0 b@v1.1.0 c@v1.0.0"}, {"news", "nothing"}, {"packs", "a/z"}, {"sums", crc("a@v1.2.0\n/z\n-")}, {"which a", "!none"}, {"which a/z", "a@v1.2.0"}, {"why a@v1.2.0", "1"}, {"why a@v1.1.0", "!none"},
	}},
	{"module main;require a/v2 v2.0.0;require c v1.0.0;", []exchange{
		{"list", "a@v1.1.0 a/v2@v2.0.0 b@v1.1.0 c@v1.1.0-rc"}, {"news", "nothing"}, {"why a@v1.0.0", "2"}, {"why a@v1.1.0", "3"}, {"why b@v1.0.0", "3"}, {"why b@v1.1.0", "4"}, {"why c@v1.0.0", "1"}, {"why c@v1.1.0-rc", "2"}, {"why a/v2@v2.0.0", "1"}, {"packs", "a a/b a/x/y b b/- c"}, {"which a/v2", "!none"}, {"which c", "c@v1.1.0-rc"},
		{"sums", crc("a@v1.1.0\nb@v1.1.0\n/.\n/b\n/x/y\n") + " " + crc("a/v2@v2.0.0\na@v1.0.0\nc@v1.1.0-rc\n") + " " + crc("b@v1.1.0\nc@v1.0.0\n/-\n/.\n") + " " + crc("c@v1.1.0-rc\na@v1.1.0\n/.\n")},
	}},
	{"module main;require c v1.0.0;", []exchange{{"list", "c@v1.0.0"}, {"packs", "nothing"}, {"news", "nothing"}, {"sums", crc("c@v1.0.0\n")}, {"up", "c@v1.0.0"}}},

	// What the file requires is told to be wrong ahead of what is asked for, where a build is asked for first.
	{"module main;require a v1.0.0;require q v1.0.0;", []exchange{
		{"list", "!none"}, {"up", "!none"}, {"news", "!none"}, {"packs", "!none"}, {"sums", "!none"}, {"why a@v1.0.0", "!none"}, {"which a", "!none"}, {"which A", "!none"}, {"which elevenchars", "!none"}, {"why a", "!text"}, {"why a@v2.0.0", "!major"}, {"list 1", "!text"}, {"which", "!text"}, {"which ", "!text"}, {"which a b", "!text"}, {"which a ", "!text"},
	}},
}

func TestWhatIsToldOfTheBuild(t *testing.T) {
	for _, c := range ofBuilds {
		// None of them changes the file.
		check(t, behind(some, "main "+c.file), slices.Concat(c.told, []exchange{{"show", c.file}}, c.told, []exchange{{"show", c.file}})...)
	}
}

func TestWhyAndWhichOfWhatIsNone(t *testing.T) {
	check(t, behind(some, "get a"),
		exchange{"why a", "!text"}, exchange{"why @", "!text"}, exchange{"why a@", "!text"}, exchange{"why a@v1", "!text"}, exchange{"why a@v1.1.0@", "!text"}, exchange{"why A@v1.1.0", "!text"}, exchange{"why a@upgrade", "!text"}, exchange{"why a@v1000000.0.0", "!bound"}, exchange{"why elevenchars@v1.0.0", "!bound"}, exchange{"why a@v2.0.0", "!major"}, exchange{"why a/v1@v1.0.0", "!major"},
		exchange{"which A", "!text"}, exchange{"which a/", "!text"}, exchange{"which .", "!text"}, exchange{"which a@v1.1.0", "!text"}, exchange{"which ...", "!text"}, exchange{"which a,b", "!text"}, exchange{"which elevenchars", "!bound"}, exchange{"which a/b/c/d/e/f", "!bound"}, exchange{"which a/v1", "!none"}, exchange{"which q", "!none"},
	)
}

// right has each command once, as few words as may be.
var right = strings.Split("entry d@v1.0.0 - -|back a@v1.0.0|main module m;|show|list|up|get|why a@v1.1.0|news|which a|packs|sums", "|")

func TestLinesThatAreNone(t *testing.T) {
	none := []string{"", " ", "  ", "-", ";", "what", "nothing", "ok", "list;", "list,", "list\n", "\nlist", "list\t", "list\tx", "list\x00", "\xff", "list\u00a0", "show;list", "entry", "entry d@v1.0.0", "entry d@v1.0.0 -", "entry d@v1.0.0 - - -", "entry a@v1.0.0 - - .", "back a@v1.0.0 b@v1.0.0", "back a@v1.7.0 x", "why a@v1.1.0 a@v1.1.0", "why q@v1.0.0 -", "which a a", "which q q", "which A A"}
	none = append(none, "entry  d@v1.0.0 - -", "entry d@v1.0.0  - -", "entry d@v1.0.0 -  -", "entry d@v1.0.0 - - ", "entry d@v1.0.0  -", "entry d@v1.0.0 - ", "entry a@v1.0.0  -", "entry a@v1.0.0 - ", "entry a@v1.0.0\t-\t-", "back  a@v1.0.0", "main\tmodule m;", "main;", "why\ta@v1.1.0")
	for _, line := range right {
		name, rest, _ := strings.Cut(line, " ")
		none = append(none, line+"  ", " "+line, "\t"+line, strings.ToUpper(line), strings.Replace(line, name, name+name, 1), strings.Replace(line, name, name[:len(name)-1], 1), strings.ToUpper(line[:1])+line[1:])
		if name != "main" {
			none = append(none, line+" ", name+"  "+rest)
		}
		if rest != "" {
			none = append(none, name)
		} else if name != "get" {
			none = append(none, line+" x", line+" -", line+" x y", line+" "+line)
		}
	}
	for _, line := range none {
		check(t, behind(some, "get a"), exchange{line, "!text"}, exchange{"show", "module main;require a v1.1.0;"}, exchange{"get d", "!none"}, exchange{"get a@v1.0.0", "a@v1.0.0 b@v1.1.0 c@v1.0.0"})
	}
}

func TestAsManyLinesAsMayBe(t *testing.T) {
	lines := slices.Repeat([]string{"list"}, 78)
	check(t, lines, exchange{"show", "module main;"}, exchange{"", "!text"})
	for _, n := range []int{81, 82, 160, 10000} {
		for _, line := range []string{"list", "", "entry"} {
			if got, err := script.Run(slices.Repeat([]string{line}, n)); len(got) > 0 || err != api.ErrBound {
				t.Errorf("%d of %q: %q, %#v", n, line, got, err)
			}
		}
	}
	var entries []string
	for _, m := range strings.Fields(samples.Row(79)) {
		entries = append(entries, "entry "+m+" - .")
	}
	slices.Reverse(entries)
	check(t, nil, slices.Concat(exchanges(entries, "ok"), []exchange{{"entry r000@v1.0.0 - .", "!exist"}})...)
	check(t, entries[1:], exchange{"get r078", "!none"}, exchange{"get r077", "r077@v1.0.0"})
}
