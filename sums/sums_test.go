package sums_test

import (
	"fmt"
	"hash/crc32"
	"math"
	"reflect"
	"regexp"
	"slices"
	"strconv"
	"strings"
	"testing"

	"pewholder/api"
	"pewholder/index"
	"pewholder/mod"
	"pewholder/samples"
	"pewholder/sums"
)

// wantSum is the sum of a text, by another program.
func wantSum(text string) uint32 { return crc32.ChecksumIEEE([]byte(text)) }

// linesOf reads `PATH@VERSION=SUM` words, right or wrong (no sum: 0).
func linesOf(words string) []sums.Line {
	var l []sums.Line
	for _, w := range strings.Fields(words) {
		m, digits, _ := strings.Cut(w, "=")
		n, _ := strconv.ParseUint(digits, 10, 32)
		l = append(l, sums.Line{Mod: samples.Mod(m), Sum: uint32(n)})
	}
	return l
}

func TestOf(t *testing.T) {
	for _, c := range []struct{ entry, text string }{
		{"a@v1.0.0", "a@v1.0.0\n"},
		{"a/b/v2@v2.0.1-rc.1", "a/b/v2@v2.0.1-rc.1\n"},
		{"a@v1.0.0 back", "a@v1.0.0\n-"},
		{"a@v1.0.0 has .", "a@v1.0.0\n/.\n"},
		{"a@v1.0.0 has . x/y", "a@v1.0.0\n/.\n/x/y\n"},
		{"a@v1.0.0 has . x/y back", "a@v1.0.0\n/.\n/x/y\n-"},
		{"a@v1.0.0 needs b@v0.1.0", "a@v1.0.0\nb@v0.1.0\n"},
		{"a@v1.0.0 needs b@v0.1.0 c/v3@v3.0.0 back", "a@v1.0.0\nb@v0.1.0\nc/v3@v3.0.0\n-"},
		{"a@v1.0.0 needs b@v0.1.0 c/v3@v3.0.0 has . x/y z back", "a@v1.0.0\nb@v0.1.0\nc/v3@v3.0.0\n/.\n/x/y\n/z\n-"},

		// It need be no entry that is right: in whatever order, twice, its own path, and what is not right has no text.
		{"a@v1.0.0 needs c@v1.0.0 b@v1.0.0 b@v1.0.0 a@v1.0.0 has y x x", "a@v1.0.0\nc@v1.0.0\nb@v1.0.0\nb@v1.0.0\na@v1.0.0\n/y\n/x\n/x\n"},
		{"@", "\n"}, {"a@", "\n"}, {"@v1.0.0", "\n"}, {"a@v2.0.0", "\n"}, {"A@v1.0.0 back", "\n-"}, {"a@v1000000.0.0 has .", "\n/.\n"},
		{"a@v1.0.0 needs b@ b@v1.0.0 a/v1@v1.0.0", "a@v1.0.0\n\nb@v1.0.0\n\n"}, {"@ needs @ has A ... @ back", "\n\n/A\n/...\n/@\n-"},
	} {
		if got := sums.Of(samples.Index(c.entry)[0]); got != wantSum(c.text) {
			t.Errorf("Of %s: %d, not %d", c.entry, got, wantSum(c.text))
		}
	}
}

func TestOfAsNumbers(t *testing.T) {
	for _, c := range []struct {
		entry string
		sum   uint32
	}{
		{"@", 0x32d70693}, {"a@v1.0.0", 0x4788af7e}, {"a@v1.0.0 back", 0x2027676c}, {"a@v1.0.0 needs b@v0.1.0 has . x/y", 0xbbb5b6e1},
	} {
		if got := sums.Of(samples.Index(c.entry)[0]); got != c.sum {
			t.Errorf("Of %s: %#x, not %#x", c.entry, got, c.sum)
		}
	}
}

func TestOfTellsWhichPartAWordIsIn(t *testing.T) {
	seen := map[uint32]string{}
	for _, text := range []string{"a@v1.0.0", "b@v1.0.0", "a@v1.0.1", "a@v1.0.0 back", "a@v1.0.0 has .", "a@v1.0.0 has -", "a@v1.0.0 has - back", "a@v1.0.0 needs b@v1.0.0", "a@v1.0.0 needs b@v1.0.0 has b", "a@v1.0.0 has b", "a@v1.0.0 has a b", "a@v1.0.0 has a/b"} {
		sum := sums.Of(samples.Index(text)[0])
		if other, there := seen[sum]; there {
			t.Errorf("%s and %s: both %d", text, other, sum)
		}
		seen[sum] = text
	}
}

func TestOfEachByte(t *testing.T) {
	all := ""
	for i := range 256 {
		c := string([]byte{byte(i)})
		all += c
		for _, pack := range []string{c, "x" + c, c + c, all} {
			e := api.Entry{Mod: samples.Mod("a@v1.0.0"), Packs: []string{pack}}
			if got, want := sums.Of(e), wantSum("a@v1.0.0\n/"+pack+"\n"); got != want {
				t.Errorf("Of the package %q: %d, not %d", pack, got, want)
			}
		}
	}
	long := strings.Repeat(all, 1000)
	e := api.Entry{Packs: []string{"", long, ""}, Reqs: make([]api.Mod, 1000)}
	if got, want := sums.Of(e), wantSum(strings.Repeat("\n", 1001)+"/\n/"+long+"\n/\n"); got != want {
		t.Errorf("Of a long entry: %d, not %d", got, want)
	}
}

func TestOfEachLength(t *testing.T) {
	for n := range 300 {
		for _, letter := range []string{"\x00", "\xff", "a"} {
			pack := strings.Repeat(letter, n)
			if got, want := sums.Of(api.Entry{Packs: []string{pack}}), wantSum("\n/"+pack+"\n"); got != want {
				t.Errorf("Of %d times %q: %d, not %d", n, letter, got, want)
			}
		}
	}
}

const some = `a@v1.0.0 needs b@v0.1.0 has . x/y
	a@v1.1.0 back
	a@v1.10.0 needs b@v0.2.0 c/v2@v2.0.0 has x
	b@v0.1.0
	b@v0.2.0-rc.1 needs a@v1.0.0 has . back
	b@v0.2.0
	c/v2@v2.0.0 has .`

// textsOf are what the sums of these entries are made of.
var textsOf = map[string]string{
	"a@v1.0.0":    "a@v1.0.0\nb@v0.1.0\n/.\n/x/y\n",
	"a@v1.1.0":    "a@v1.1.0\n-",
	"a@v1.10.0":   "a@v1.10.0\nb@v0.2.0\nc/v2@v2.0.0\n/x\n",
	"b@v0.1.0":    "b@v0.1.0\n",
	"c/v2@v2.0.0": "c/v2@v2.0.0\n/.\n",
	// Pre and taken back.
	"b@v0.2.0-rc.1": "b@v0.2.0-rc.1\na@v1.0.0\n/.\n-",
	"b@v0.2.0":      "b@v0.2.0\n",
}

func wantAll(sel []api.Mod) []sums.Line {
	var want []sums.Line
	for _, m := range sel {
		want = append(want, sums.Line{Mod: m, Sum: wantSum(textsOf[samples.Words([]api.Mod{m})])})
	}
	return want
}

func TestAll(t *testing.T) {
	l := samples.Index(some)
	for _, words := range []string{
		"", "a@v1.0.0", "b@v0.2.0", "a@v1.0.0 b@v0.1.0", "a@v1.10.0 b@v0.2.0 c/v2@v2.0.0",

		// It need be no selection: in the list's order, also twice.
		"b@v0.1.0 a@v1.0.0", "a@v1.10.0 a@v1.1.0 a@v1.0.0", "c/v2@v2.0.0 c/v2@v2.0.0 b@v0.2.0-rc.1 c/v2@v2.0.0",
		strings.Repeat("b@v0.2.0-rc.1 a@v1.1.0 ", 200),
	} {
		sel := samples.Mods(words)
		if got, err := sums.All(l, sel); !slices.Equal(got, wantAll(sel)) || err != nil {
			t.Errorf("All of %.80s: %v, %v", words, got, err)
		}
	}
}

var wrongIndexes = []struct {
	index string
	err   error
	at    int
}{
	{samples.Lines(101), api.ErrFull, -1},
	{"a@v1.0.0\nb@", api.ErrText, 1},
	{"a@v1.0.0\nb@v1000000.0.0", api.ErrBound, 1},
	{"a@v2.0.0 has .", api.ErrMajor, 0},
	{"a@v1.0.0\na@v1.0.0", api.ErrOrder, 1},
	{"a@v1.0.0 needs a@v1.0.0", api.ErrShape, 0},
	{"a@v1.0.0\nb@v1.0.0 has " + strings.ReplaceAll(samples.Row(11), "@v1.0.0", ""), api.ErrFull, 1},
	{"a@v1.0.0 has b/v1", api.ErrText, 0},
	{"a@v1.0.0\nb@v1.0.0 has x x", api.ErrOrder, 1},
	{"a@v1.0.0\nb@v1.0.0 needs c@v1.0.0", api.ErrNone, 1},
}

// Whatever else is wrong: modules that are no entries, and lines that are not there.
func TestWrongIndexes(t *testing.T) {
	for _, c := range wrongIndexes {
		l := samples.Index(c.index)
		for _, words := range []string{"", "a@v1.0.0", "x@v1.0.0", "@", "a@v1.0.0 x@v1.0.0"} {
			sel := samples.Mods(words)
			if got, err := sums.All(l, sel); len(got) > 0 || !samples.SameFault(err, c.err, c.at) {
				t.Errorf("All of %s in %.80s: %v, %#v", words, c.index, got, err)
			}
			for _, have := range []string{"", "a@v1.0.0=1", "@"} {
				if err := sums.Verify(l, sel, linesOf(have)); !samples.SameFault(err, c.err, c.at) {
					t.Errorf("Verify %s in %.80s: %#v", words, c.index, err)
				}
			}
		}
	}
}

func TestWhatIsNoEntry(t *testing.T) {
	for _, c := range []struct {
		index, sel string
		at         int
	}{
		{"", "a@v1.0.0", 0}, {"", "@", 0}, {some, "x@v1.0.0", 0}, {some, "@", 0}, {some, "a@", 0}, {some, "A@v1.0.0", 0}, {some, "a@v1.0.1", 0}, {some, "a@v1.0.0-rc", 0}, {some, "c@v2.0.0", 0}, {some, "c/v2@v2.0.1", 0}, {some, "b@v0.2.0-rc.2", 0},
		{some, "a@v1.0.0 a@v1.0.1 @", 1}, {some, "b@v0.2.0 b@v0.2.0 z@v1.0.0 a@v1.0.0", 2}, {samples.Lines(100), samples.Row(101), 100},
	} {
		l, sel := samples.Index(c.index), samples.Mods(c.sel)
		if got, err := sums.All(l, sel); len(got) > 0 || !samples.SameFault(err, api.ErrNone, c.at) {
			t.Errorf("All of %.80s: %v, %#v", c.sel, got, err)
		}
		// Also where there are lines of it, or one of an entry is missing or other ahead of it.
		for _, have := range [][]sums.Line{nil, linesOf(strings.ReplaceAll(c.sel, " ", "=1 ")), {{Mod: sel[len(sel)-1]}}} {
			if err := sums.Verify(l, sel, have); !samples.SameFault(err, api.ErrNone, c.at) {
				t.Errorf("Verify %.80s: %#v", c.sel, err)
			}
		}
	}
}

func TestNothingAtAll(t *testing.T) {
	for _, l := range [][]api.Entry{nil, {}, samples.Index(some)} {
		for _, sel := range [][]api.Mod{nil, {}} {
			if got, err := sums.All(l, sel); len(got) > 0 || err != nil {
				t.Errorf("All of nothing: %v, %v", got, err)
			}
			for _, have := range [][]sums.Line{nil, {}, linesOf("@ a@v1.0.0=7 @")} {
				if err := sums.Verify(l, sel, have); err != nil {
					t.Errorf("Verify nothing: %v", err)
				}
			}
		}
	}
	for _, l := range [][]sums.Line{nil, {}} {
		if s, err := sums.Text(l); s != "" || err != nil {
			t.Errorf("Text of nothing: %q, %v", s, err)
		}
	}
	if l, err := sums.Read(""); len(l) > 0 || err != nil {
		t.Errorf("Read nothing: %v, %v", l, err)
	}
}

// written are lines that are right, and their texts.
var written = []struct{ lines, text string }{
	{"a@v1.0.0=0", "a v1.0.0 0\n"},
	{"a@v1.0.0=1", "a v1.0.0 1\n"},
	{"a/b/v2@v2.0.1-rc.1=10", "a/b/v2 v2.0.1-rc.1 10\n"},
	{"a@v1.0.0=2147483647", "a v1.0.0 2147483647\n"},
	{"a@v1.0.0=2147483648", "a v1.0.0 2147483648\n"},
	{"a@v1.0.0=4294967294", "a v1.0.0 4294967294\n"},
	{"a@v1.0.0=4294967295", "a v1.0.0 4294967295\n"},
	{"a@v1.2.0-rc.2=5 a@v1.2.0-rc.10=5 a@v1.2.0=5 a@v1.10.0=5", "a v1.2.0-rc.2 5\na v1.2.0-rc.10 5\na v1.2.0 5\na v1.10.0 5\n"},
	{"a@v1.10.0=30 a-b@v0.0.0=20 a/v10@v10.0.0=10 a/v2@v2.0.0=0 b@v0.1.0=999999999", "a v1.10.0 30\na-b v0.0.0 20\na/v10 v10.0.0 10\na/v2 v2.0.0 0\nb v0.1.0 999999999\n"},
}

func TestLinesThatAreRight(t *testing.T) {
	for _, c := range written {
		l := linesOf(c.lines)
		if s, err := sums.Text(l); s != c.text || err != nil {
			t.Errorf("Text of %s: %q, %v", c.lines, s, err)
		}
		if got, err := sums.Read(c.text); !slices.Equal(got, l) || err != nil {
			t.Errorf("Read(%q): %v, %v", c.text, got, err)
		}
	}
}

// There is no bound on how many lines there are, or how long their text is.
func TestManyLines(t *testing.T) {
	var l []sums.Line
	for i := range 3000 {
		l = append(l, sums.Line{Mod: samples.Mod(fmt.Sprintf("p%05d@v0.0.%d", i, i)), Sum: uint32(i) * 1431655})
	}
	s, err := sums.Text(l)
	if len(s) <= api.MaxText || strings.Count(s, "\n") != 3000 || err != nil {
		t.Error(len(s), err)
	}
	if got, err := sums.Read(s); !slices.Equal(got, l) || err != nil {
		t.Error(len(got), err)
	}
	if got, err := sums.Read(s + s); len(got) > 0 || !samples.SameFault(err, api.ErrOrder, 3000) {
		t.Errorf("%d, %#v", len(got), err)
	}
}

func TestTextOfWrongLines(t *testing.T) {
	for _, c := range []struct {
		lines string
		err   error
		at    int
	}{
		{"@", api.ErrText, 0}, {"a@", api.ErrText, 0}, {"@v1.0.0=1", api.ErrText, 0}, {"A@v1.0.0", api.ErrText, 0}, {"a@v1", api.ErrText, 0}, {"a@none", api.ErrText, 0},
		{"elevenchars@v1.0.0", api.ErrBound, 0}, {"a/b/c/d/e/f@v1.0.0", api.ErrBound, 0}, {"a@v1000000.0.0", api.ErrBound, 0}, {"a@v2.0.0=1", api.ErrMajor, 0}, {"a/v2@v1.0.0", api.ErrMajor, 0}, {"a/v1@v1.0.0", api.ErrMajor, 0},
		{"a@v1.0.0 @", api.ErrText, 1}, {"a@v1.0.0 b@v1.0.0 c@v3.0.0", api.ErrMajor, 2},
		{"a@v1.0.0 a@v1.0.0", api.ErrOrder, 1}, {"a@v1.0.0=1 a@v1.0.0=2", api.ErrOrder, 1}, {"b@v1.0.0 a@v1.0.0", api.ErrOrder, 1}, {"a@v1.10.0 a@v1.9.0", api.ErrOrder, 1}, {"a@v1.0.0 a@v1.0.0-rc", api.ErrOrder, 1},
		{"a@v1.0.0 b@v1.0.0 a@v1.1.0", api.ErrOrder, 2}, {"a/v2@v2.0.0 a/v10@v10.0.0", api.ErrOrder, 1}, {"a@v1.0.0 c@v1.0.0 b@v1.0.0 b@v1.0.0", api.ErrOrder, 2},

		// Of one line: its module ahead of its order. Of several: the first.
		{"b@v1.0.0 a@v2.0.0", api.ErrMajor, 1}, {"b@v1.0.0 a@v1.0.0 @", api.ErrOrder, 1}, {"b@v2.0.0 a@v1.0.0 @", api.ErrMajor, 0}, {"a@v1.0.0 @ b@v2.0.0", api.ErrText, 1},
	} {
		if s, err := sums.Text(linesOf(c.lines)); s != "" || !samples.SameFault(err, c.err, c.at) {
			t.Errorf("Text of %s: %q, %#v", c.lines, s, err)
		}
	}
}

func TestReadOfWrongTexts(t *testing.T) {
	for _, c := range []struct {
		text string
		err  error
		at   int
	}{
		// Not three words, a blank between.
		{"\n", api.ErrText, 0}, {" \n", api.ErrText, 0}, {"  \n", api.ErrText, 0}, {"a\n", api.ErrText, 0}, {"a v1.0.0\n", api.ErrText, 0}, {"a v1.0.0 1 \n", api.ErrText, 0}, {"a v1.0.0 1 1\n", api.ErrText, 0}, {" a v1.0.0 1\n", api.ErrText, 0},
		{"a  v1.0.0 1\n", api.ErrText, 0}, {"a v1.0.0  1\n", api.ErrText, 0}, {"a\tv1.0.0\t1\n", api.ErrText, 0}, {"a@v1.0.0 1\n", api.ErrText, 0}, {"a v1.0.0 1\n\n", api.ErrText, 1}, {"\na v1.0.0 1\n", api.ErrText, 0}, {"a v1.0.0 1\n \n", api.ErrText, 1},

		// The last is no number.
		{"a v1.0.0 \n", api.ErrText, 0}, {"a v1.0.0 x\n", api.ErrText, 0}, {"a v1.0.0 -1\n", api.ErrText, 0}, {"a v1.0.0 +1\n", api.ErrText, 0}, {"a v1.0.0 0x1\n", api.ErrText, 0}, {"a v1.0.0 1_0\n", api.ErrText, 0}, {"a v1.0.0 1.0\n", api.ErrText, 0},
		{"a v1.0.0 1e3\n", api.ErrText, 0}, {"a v1.0.0 \u0663\n", api.ErrText, 0}, {"a v1.0.0 1\r\n", api.ErrText, 0}, {"a v1.0.0 1\t\n", api.ErrText, 0}, {"a v1.0.0 1\x00\n", api.ErrText, 0}, {"a v1.0.0 ff\n", api.ErrText, 0},

		// It has needless zeros, or more than ten digits.
		{"a v1.0.0 00\n", api.ErrText, 0}, {"a v1.0.0 01\n", api.ErrText, 0}, {"a v1.0.0 0123456789\n", api.ErrText, 0}, {"a v1.0.0 0000000000\n", api.ErrText, 0}, {"a v1.0.0 04294967295\n", api.ErrText, 0}, {"a v1.0.0 04294967296\n", api.ErrText, 0},
		{"a v1.0.0 10000000000\n", api.ErrText, 0}, {"a v1.0.0 12345678901\n", api.ErrText, 0}, {"a v1.0.0 18446744073709551617\n", api.ErrText, 0}, {"a v1.0.0 " + strings.Repeat("9", 1000) + "\n", api.ErrText, 0}, {"a v1.0.0 00000000001\n", api.ErrText, 0},

		// No end.
		{"a", api.ErrText, 0}, {" ", api.ErrText, 0}, {"a v1.0.0 1", api.ErrText, 0}, {"a v1.0.0 4294967296", api.ErrText, 0}, {"a v1.0.0 1\nb v1.0.0 1", api.ErrText, 1}, {"a v1.0.0 1\na v1.0.0 1", api.ErrText, 1}, {"a v1.0.0 1\r", api.ErrText, 0},

		{"a v1.0.0 4294967296\n", api.ErrBound, 0}, {"a v1.0.0 4294967300\n", api.ErrBound, 0}, {"a v1.0.0 5000000000\n", api.ErrBound, 0}, {"a v1.0.0 9999999999\n", api.ErrBound, 0}, {"a v1.0.0 8589934592\n", api.ErrBound, 0}, {"a v1.0.0 4294967295\nb v1.0.0 4294967296\n", api.ErrBound, 1},

		{"A v1.0.0 1\n", api.ErrText, 0}, {"a v1 1\n", api.ErrText, 0}, {"a none 1\n", api.ErrText, 0}, {"elevenchars v1.0.0 1\n", api.ErrBound, 0}, {"a v1000000.0.0 1\n", api.ErrBound, 0}, {"a v2.0.0 1\n", api.ErrMajor, 0}, {"a/v1 v1.0.0 1\n", api.ErrMajor, 0},
		{"a v1.0.0 1\na v1.0.0 1\n", api.ErrOrder, 1}, {"b v1.0.0 1\na v1.0.0 1\n", api.ErrOrder, 1}, {"a v1.10.0 1\na v1.9.0 1\n", api.ErrOrder, 1}, {"a v1.0.0 1\nb v1.0.0 1\na v1.1.0 1\n", api.ErrOrder, 2},

		// Of one line: in this order.
		{"A v1 4294967296\n", api.ErrBound, 0}, {"a v2.0.0 4294967296\n", api.ErrBound, 0}, {"a v2.0.0 01\n", api.ErrText, 0}, {"a v2.0.0 12345678901\n", api.ErrText, 0}, {"b v1.0.0 1\na v1.0.0 4294967296\n", api.ErrBound, 1}, {"b v1.0.0 1\na v2.0.0 1\n", api.ErrMajor, 1},

		// Of several lines: the first that is wrong, in whatever way.
		{"a v2.0.0 1\n\n", api.ErrMajor, 0}, {"a v2.0.0 1\nb v1.0.0 4294967296\n", api.ErrMajor, 0}, {"b v1.0.0 1\na v1.0.0 1\nx\n", api.ErrOrder, 1}, {"a v1.0.0 4294967296\nx\n", api.ErrBound, 0}, {"x\na v1.0.0 4294967296\n", api.ErrText, 0}, {"elevenchars v1.0.0 1\na v1.0.0 1", api.ErrBound, 0},

		// A word may be anything, also empty: that is the module's fault.
		{" v1.0.0 1\n", api.ErrText, 0}, {"a  1\n", api.ErrText, 0}, {"  1\n", api.ErrText, 0}, {"elevenchars  1\n", api.ErrBound, 0}, {" v1.0.0 4294967296\n", api.ErrBound, 0}, {"\xff v1.0.0 1\n", api.ErrText, 0}, {"a v1.0.0\r 1\n", api.ErrText, 0},
	} {
		if l, err := sums.Read(c.text); len(l) > 0 || !samples.SameFault(err, c.err, c.at) {
			t.Errorf("Read(%.60q): %v, %#v, not %v at %d", c.text, l, err, c.err, c.at)
		}
	}
}

func TestReadOfSumsNearTheBound(t *testing.T) {
	for n := uint64(math.MaxUint32 - 300); n < math.MaxUint32+300; n++ {
		l, err := sums.Read("a v1.0.0 " + strconv.FormatUint(n, 10) + "\n")
		if n <= math.MaxUint32 && (err != nil || len(l) != 1 || l[0].Sum != uint32(n)) || n > math.MaxUint32 && (len(l) > 0 || !samples.SameFault(err, api.ErrBound, 0)) {
			t.Errorf("%d: %v, %#v", n, l, err)
		}
	}
}

// likeLine is the line of a sum, told by a pattern over the whole of it.
var likeLine = regexp.MustCompile(`^([^ \n]*) ([^ \n]*) (0|[1-9][0-9]{0,9})\n$`)

// wantRead reads one line behind another module, or tells what is wrong first.
func wantRead(line string, ahead api.Mod) (sums.Line, error) {
	words := likeLine.FindStringSubmatch(line)
	if words == nil {
		return sums.Line{}, api.ErrText
	}
	n, _ := strconv.ParseInt(words[3], 10, 64)
	l := sums.Line{Mod: api.Mod{Path: words[1], Ver: words[2]}, Sum: uint32(n)}
	err := mod.Check(l.Mod)
	switch {
	case n >= 1<<32:
		err = api.ErrBound
	case err == nil && ahead != (api.Mod{}) && !mod.Ahead(ahead, l.Mod):
		err = api.ErrOrder
	}
	return l, err
}

func TestReadOfManyTexts(t *testing.T) {
	pieces := []string{"a v1.0.0 1\n", "a v1.1.0 0\n", "b v2.0.0 7\n", "b v1.0.0 4294967296\n", "b ", "v1.0.0 ", "10\n", "0", "\n", "x v1 1\n"}
	seen := map[error]int{}
	samples.EachList(pieces, 5, func(list []string) {
		s := strings.Join(list, "")
		var want []sums.Line
		var wantErr error
		wantAt := -1
		for line := range strings.Lines(s) {
			ahead := api.Mod{}
			if len(want) > 0 {
				ahead = want[len(want)-1].Mod
			}
			l, err := wantRead(line, ahead)
			if err != nil {
				want, wantErr, wantAt = nil, err, len(want)
				break
			}
			want = append(want, l)
		}
		seen[wantErr]++
		got, err := sums.Read(s)
		if !slices.Equal(got, want) || !samples.SameFault(err, wantErr, wantAt) {
			t.Fatalf("Read(%q): %v, %#v, not %v, %v at %d", s, got, err, want, wantErr, wantAt)
		}
		if text, err2 := sums.Text(got); err == nil && (text != s || err2 != nil) {
			t.Fatalf("%q is written as %q, %v", s, text, err2)
		}
	})
	for _, err := range []error{nil, api.ErrText, api.ErrBound, api.ErrMajor, api.ErrOrder} {
		if seen[err] < 10 {
			t.Errorf("only %d texts with %v", seen[err], err)
		}
	}
}

func TestLinesAreReadAsTheyWereWritten(t *testing.T) {
	of := linesOf("a@v1.0.0=0 a@v1.1.0-rc.2=4294967295 a@v1.1.0-rc.10=100 a/v2@v2.0.0=7 b@v0.1.0=1 b@v2.0.0=1 @=3")
	seen := 0
	samples.EachList(of, 4, func(l []sums.Line) {
		s, err := sums.Text(l)
		rising := !slices.ContainsFunc(l, func(x sums.Line) bool { return mod.Check(x.Mod) != nil })
		for i := range l {
			rising = rising && (i == 0 || mod.Ahead(l[i-1].Mod, l[i].Mod))
		}
		if rising != (err == nil) || err != nil && s != "" {
			t.Fatalf("Text(%v): %q, %v", l, s, err)
		}
		if err != nil {
			return
		}
		seen++
		if got, err := sums.Read(s); !slices.Equal(got, l) || err != nil {
			t.Fatalf("%v is read as %v, %v", l, got, err)
		}
	})
	if seen < 10 {
		t.Errorf("only %d lists among them", seen)
	}
}

func TestVerify(t *testing.T) {
	l := samples.Index(some)
	all := wantAll(samples.Mods("a@v1.0.0 b@v0.2.0 c/v2@v2.0.0"))
	other := func(x sums.Line, bits uint32) sums.Line { return sums.Line{Mod: x.Mod, Sum: x.Sum ^ bits} }
	for i, c := range []struct {
		sel  string
		have []sums.Line
		err  error
		at   int
	}{
		{"a@v1.0.0 b@v0.2.0 c/v2@v2.0.0", all, nil, -1},
		{"a@v1.0.0", all, nil, -1}, {"c/v2@v2.0.0", all, nil, -1},
		{"c/v2@v2.0.0 a@v1.0.0 a@v1.0.0 b@v0.2.0", all, nil, -1},

		// Lines that are none of these, and lines that are no lines, are not asked.
		{"a@v1.0.0", append(linesOf("z@v1.0.0=7 @ a@v1.1.0 a@v2.0.0"), all...), nil, -1},
		{"b@v0.2.0", []sums.Line{all[2], other(all[0], 1), all[1]}, nil, -1},

		{"a@v1.0.0", nil, api.ErrNone, 0}, {"a@v1.0.0", []sums.Line{}, api.ErrNone, 0}, {"a@v1.0.0", all[1:], api.ErrNone, 0}, {"a@v1.0.0 b@v0.2.0 c/v2@v2.0.0", all[:2], api.ErrNone, 2}, {"a@v1.0.0 b@v0.2.0 c/v2@v2.0.0", all[:1], api.ErrNone, 1},
		// Only the path, only the version.
		{"b@v0.1.0", all, api.ErrNone, 0}, {"b@v0.2.0-rc.1", all, api.ErrNone, 0}, {"a@v1.0.0 a@v1.1.0", all, api.ErrNone, 1}, {"a@v1.0.0", linesOf("a@v1.1.0 b@v1.0.0"), api.ErrNone, 0},

		{"a@v1.0.0", []sums.Line{other(all[0], 1)}, api.ErrSum, 0}, {"a@v1.0.0", []sums.Line{other(all[0], 1<<31)}, api.ErrSum, 0}, {"a@v1.0.0", linesOf("a@v1.0.0=0"), api.ErrSum, 0}, {"c/v2@v2.0.0 a@v1.0.0", []sums.Line{all[2], other(all[0], 1<<16)}, api.ErrSum, 1},

		// Of several lines of one module the first counts.
		{"a@v1.0.0", []sums.Line{all[0], other(all[0], 1)}, nil, -1}, {"a@v1.0.0", []sums.Line{other(all[0], 1), all[0]}, api.ErrSum, 0}, {"b@v0.2.0 a@v1.0.0", []sums.Line{all[0], other(all[1], 2), all[1], other(all[0], 1)}, api.ErrSum, 0},

		// The first of sel that is wrong, in whatever way.
		{"a@v1.0.0 b@v0.2.0", []sums.Line{other(all[0], 1)}, api.ErrSum, 0}, {"b@v0.2.0 a@v1.0.0", []sums.Line{other(all[0], 1)}, api.ErrNone, 0}, {"c/v2@v2.0.0 b@v0.2.0 a@v1.0.0", []sums.Line{other(all[0], 1), all[2]}, api.ErrNone, 1},
		{"c/v2@v2.0.0 b@v0.2.0 a@v1.0.0", []sums.Line{other(all[1], 1), all[2]}, api.ErrSum, 1},
	} {
		if err := sums.Verify(l, samples.Mods(c.sel), c.have); !samples.SameFault(err, c.err, c.at) {
			t.Errorf("%d: Verify %s by %v: %#v, not %v at %d", i, c.sel, c.have, err, c.err, c.at)
		}
	}
}

// wantVerify goes from the sums to the lines: each module has the sum that was told first.
func wantVerify(sel []api.Mod, have []sums.Line) (error, int) {
	first := map[api.Mod]uint32{}
	for _, x := range slices.Backward(have) {
		first[x.Mod] = x.Sum
	}
	for i, x := range wantAll(sel) {
		sum, there := first[x.Mod]
		if !there {
			return api.ErrNone, i
		}
		if sum != x.Sum {
			return api.ErrSum, i
		}
	}
	return nil, -1
}

func TestVerifyByManyLines(t *testing.T) {
	l := samples.Index(some)
	of := samples.Mods("a@v1.0.0 a@v1.1.0 b@v0.2.0")
	lines := append(wantAll(of), linesOf("a@v1.0.0=7 b@v0.2.0=8 x@v1.0.0=9")...)
	seen := map[error]int{}
	samples.EachList(of, 3, func(sel []api.Mod) {
		samples.EachList(lines, 3, func(have []sums.Line) {
			want, at := wantVerify(sel, have)
			seen[want]++
			if err := sums.Verify(l, sel, have); !samples.SameFault(err, want, at) {
				t.Fatalf("Verify %v by %v: %#v, not %v at %d", sel, have, err, want, at)
			}
		})
	})
	for _, err := range []error{nil, api.ErrNone, api.ErrSum} {
		if seen[err] < 10 {
			t.Errorf("only %d with %v", seen[err], err)
		}
	}
}

// What All tells is verified: as it is, also with more behind it; and when any of its sums is another one, it is not.
func TestWhatAllTellsIsVerified(t *testing.T) {
	check := func(l []api.Entry, sel []api.Mod) {
		all, err := sums.All(l, sel)
		if err != nil || len(all) != len(sel) {
			t.Fatal(l, sel, all, err)
		}
		if err := sums.Verify(l, sel, all); err != nil {
			t.Fatalf("Verify %v by %v: %v", sel, all, err)
		}
		if err := sums.Verify(l, sel, append(slices.Clone(all), linesOf("a@v1.0.0=1 b@v0.2.0=1 r000@v1.0.0=1")...)); err != nil {
			t.Fatalf("Verify %v by %v and more: %v", sel, all, err)
		}
		for i := range all {
			if all[i].Mod != sel[i] || all[i].Sum != sums.Of(l[index.Find(l, sel[i])]) {
				t.Fatalf("All of %v: %v at %d", sel, all, i)
			}
			wrong, at := slices.Clone(all), slices.Index(sel, sel[i])
			wrong[at].Sum += uint32(i) + 1
			if err := sums.Verify(l, sel, wrong); !samples.SameFault(err, api.ErrSum, at) {
				t.Fatalf("Verify %v by %v: %v", sel, wrong, err)
			}
		}
	}
	l := samples.Index(some)
	samples.EachList(l, 3, func(es []api.Entry) {
		var sel []api.Mod
		for _, e := range es {
			sel = append(sel, e.Mod)
		}
		check(l, sel)
	})
	check(samples.Index(samples.Lines(100)), samples.Mods(samples.Row(100)))
	check(samples.Index(samples.Lines(100)), samples.Mods(samples.Row(100)+" "+samples.Row(30)))
}

// ask hands all of it to each call, and writes into what they answer, once it is told.
func ask(l []api.Entry, sel []api.Mod, have []sums.Line, s string) []any {
	all, err := sums.All(l, sel)
	read, err2 := sums.Read(s)
	text, err3 := sums.Text(have)
	told := []any{fmt.Sprint(all), err, fmt.Sprint(read), err2, text, err3, sums.Verify(l, sel, have)}
	for _, e := range l {
		told = append(told, sums.Of(e))
	}
	for _, lines := range [][]sums.Line{all, read} {
		for i := range lines[:cap(lines)] {
			lines[:cap(lines)][i] = sums.Line{Mod: api.Mod{Path: "written", Ver: "over"}, Sum: 1}
		}
	}
	return told
}

func TestArgumentsAreOnlyRead(t *testing.T) {
	for _, words := range []string{"", "a@v1.0.0", "a@v1.0.0 b@v0.1.0", "a@v1.10.0 b@v0.2.0 c/v2@v2.0.0", "b@v0.1.0 a@v1.0.0", "a@v1.0.0 x@v1.0.0"} {
		for _, s := range []string{"", "a v1.0.0 1\nb v1.0.0 2\n", "a v1.0.0 1\nx\n"} {
			l := samples.SpareIndex(samples.Index(some))
			sel := samples.Spare(samples.Mods(words), samples.Mods("b@v0.1.0 x@")...)
			have := samples.Spare(wantAll(samples.Mods(words)), wantAll(samples.Mods("b@v0.1.0 c/v2@v2.0.0"))...)
			before, selBefore, haveBefore := samples.Whole(l), slices.Clone(sel[:cap(sel)]), slices.Clone(have[:cap(have)])
			want := ask(samples.Index(some), samples.Mods(words), wantAll(samples.Mods(words)), s)
			for range 2 {
				if got := ask(l, sel, have, s); !reflect.DeepEqual(got, want) {
					t.Errorf("of %s and %q: %v, not %v", words, s, got, want)
				}
			}
			if !reflect.DeepEqual(samples.Whole(l), before) || !slices.Equal(sel[:cap(sel)], selBefore) || !slices.Equal(have[:cap(have)], haveBefore) {
				t.Errorf("of %s and %q: what was handed over has changed", words, s)
			}
		}
	}
	// What lies behind the lines is not asked.
	have := samples.Spare(nil, wantAll(samples.Mods("a@v1.0.0"))...)
	if err := sums.Verify(samples.Index(some), samples.Mods("a@v1.0.0"), have); !samples.SameFault(err, api.ErrNone, 0) {
		t.Errorf("by what lies behind: %#v", err)
	}
}
