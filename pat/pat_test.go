package pat_test

import (
	"regexp"
	"slices"
	"strings"
	"testing"

	"pewholder/api"
	"pewholder/mod"
	"pewholder/pat"
	"pewholder/samples"
)

func TestMatch(t *testing.T) {
	for _, c := range []struct {
		p, s string
		want bool
	}{
		// Without `...`: itself and nothing else.
		{"", "", true}, {"", "a", false}, {"a", "", false}, {"a", "a", true}, {"a", "aa", false}, {"a", "ba", false}, {"a", "a/", false}, {"a", "a/b", false}, {"a/b", "a/b", true}, {"a/b", "a", false}, {"a/", "a", false}, {"A", "a", false},
		{".", ".", true}, {".", "a", false}, {"..", "..", true}, {"..", "ab", false}, {"a..b", "a..b", true}, {"a..b", "axxb", false}, {"a/..", "a", false}, {"a/..", "a/..", true}, {"a/..", "a/bc", false},

		// Signs of other kinds of patterns are themselves.
		{"a*", "ab", false}, {"a*", "a*", true}, {"*", "a", false}, {"a?", "a", false}, {"a?", "ab", false}, {"[ab]", "a", false}, {"[ab]", "[ab]", true}, {"a|b", "a", false}, {"(a)", "a", false}, {"^a$", "a", false}, {"a+...", "aa", false}, {"a+...", "a+b", true}, {"\\a...", "a", false}, {"\\...", "\\x", true},

		// Any text: none, one, many, with `/`, with new lines, with bytes that are no letters.
		{"...", "", true}, {"...", "a", true}, {"...", "a/b/c", true}, {"...", "/", true}, {"...", "...", true}, {"...", "a\nb", true}, {"...", "\xff\x00", true}, {"a...b", "a\n\nb", true}, {"\xff...", "\xffa", true}, {"\xff...", "\xfea", false}, {"\u00e9...", "\xc3", false},

		// At the end.
		{"a...", "a", true}, {"a...", "ab", true}, {"a...", "a/b", true}, {"a...", "", false}, {"a...", "ba", false}, {"ab...", "a", false}, {"a/b...", "a/b/c", true}, {"a/b...", "a/bc", true}, {"a/b...", "a", false}, {"a/b...", "a/", false},

		// At the beginning.
		{"...a", "a", true}, {"...a", "ba", true}, {"...a", "b/a", true}, {"...a", "ab", false}, {"...a", "", false}, {".../a", "a", false}, {".../a", "/a", true}, {".../a", "b/a", true}, {".../a", "b/c/a", true}, {".../a", "b/ca", false},

		// Inside, where both sides need their own place.
		{"a...b", "ab", true}, {"a...b", "axb", true}, {"a...b", "a/b", true}, {"a...b", "a/b/b", true}, {"a...b", "abx", false}, {"a...b", "xab", false}, {"a...a", "a", false}, {"a...a", "aa", true}, {"ab...ba", "aba", false}, {"ab...ba", "abba", true}, {"a/.../b", "a/b", false}, {"a/.../b", "a//b", true}, {"a/.../b", "a/x/y/b", true},

		// Several.
		{"a...b...c", "abc", true}, {"a...b...c", "axbxc", true}, {"a...b...c", "acbc", true}, {"a...b...c", "acb", false}, {"a...b...c", "ac", false}, {"...a...", "", false}, {"...a...", "a", true}, {"...a...", "xay", true}, {"...a...", "xy", false}, {"...a...a...", "a", false}, {"...a...a...", "xaya", true},
		{"...ab...ab", "ab", false}, {"...ab...ab", "abab", true}, {"...ab...ab", "ababab", true}, {"...ab...ba...", "aba", false}, {"...ab...ba...", "abxba", true}, {"...aab...", "aaab", true}, {"...a...b...c...", "cba", false}, {"...a...b...c...", "cbabc", true}, {"x...aa...aa...x", "xaaax", false}, {"x...aa...aa...x", "xaaaax", true},

		// A last `/...` may be none at all; another one not.
		{"a/...", "a", true}, {"a/...", "a/", true}, {"a/...", "a/b", true}, {"a/...", "a/b/c", true}, {"a/...", "ab", false}, {"a/...", "ab/c", false}, {"a/...", "b/a", false}, {"a/...", "b/a/c", false}, {"a/...", "", false}, {"a/b/...", "a", false}, {"a/b/...", "a/b", true}, {"a/b/...", "a/bc", false},
		{".../...", "", true}, {".../...", "x", true}, {".../...", "x/y", true}, {"/...", "", true}, {"/...", "/", true}, {"/...", "/a", true}, {"/...", "a", false}, {"a//...", "a/", true}, {"a//...", "a", false}, {"a.../...", "a", true}, {"a.../...", "abc", true}, {"...a/...", "ba", true}, {"...a/...", "ab", false}, {"...a/...", "a/b", true},
		{"a/.../...", "a", false}, {"a/.../...", "a/", true}, {"a/.../...", "a/b", true}, {"a/.../b", "a", false}, {"a/...b", "a", false}, {"a/.../b/...", "a/b", false}, {"a/.../b/...", "a/x/b", true}, {"a/.../b/...", "a/x/b/c", true}, {"a/.../b/...", "a/x/bc", false},

		// More dots than three: the first ones are `...`.
		{"....", "", false}, {"....", ".", true}, {"....", "x.", true}, {"....", ".x", false}, {"....", "x", false}, {".....", "x..", true}, {".....", "x.", false}, {"......", "", true}, {"......", "x", true}, {".......", "x.", true}, {".......", "x", false},
		{"a....b", "ax.b", true}, {"a....b", "a.xb", false}, {"a/....", "a", false}, {"a/....", "a/.", true}, {"a/....", "a/b", false}, {"a/......", "a", false}, {"a/......", "a/", true}, {"a/......", "a/b", true}, {"..../...", "x.", true}, {"..../...", "x", false}, {"../...", "..", true}, {"../...", "ab", false},
	} {
		if got := pat.Match(c.p, c.s); got != c.want {
			t.Errorf("Match(%q, %q): %v", c.p, c.s, got)
		}
	}
}

// Each byte is itself and no other one: alone, ahead of `...`, and behind it.
func TestMatchOfEachByte(t *testing.T) {
	for i := range 256 {
		for j := range 256 {
			a, b := string([]byte{byte(i)}), string([]byte{byte(j)})
			for _, c := range [][2]string{{a, b}, {a + "x...", b + "xy"}, {"..." + a, "xy" + b}, {"..." + a + "x...", b + "x"}} {
				if pat.Match(c[0], c[1]) != (i == j) {
					t.Errorf("Match(%q, %q): not %v", c[0], c[1], i == j)
				}
			}
		}
	}
}

// likeIt is a pattern's rule, told by a regular expression.
func likeIt(p string) *regexp.Regexp {
	tail := ""
	if strings.HasSuffix(p, "/...") {
		p, tail = strings.TrimSuffix(p, "/..."), "(/.*)?"
	}
	var quoted []string
	for _, piece := range strings.Split(p, "...") {
		quoted = append(quoted, regexp.QuoteMeta(piece))
	}
	return regexp.MustCompile(`(?s)^` + strings.Join(quoted, ".*") + tail + `$`)
}

func texts(letters string, most int) []string {
	var out []string
	samples.EachText(letters, most, func(s string) { out = append(out, s) })
	return out
}

func TestMatchAndSomeOfManyTexts(t *testing.T) {
	all := texts("ab/.", 5)
	seen := map[bool]int{}
	samples.EachList([]string{"a", "b", "/", ".", "..."}, 4, func(parts []string) {
		p := strings.Join(parts, "")
		like := likeIt(p)
		var want []string
		for _, s := range all {
			matches := like.MatchString(s)
			seen[matches]++
			if pat.Match(p, s) != matches {
				t.Errorf("Match(%q, %q): not %v", p, s, matches)
			}
			if matches {
				want = append(want, s)
			}
		}
		if got := pat.Some(p, all); !slices.Equal(got, want) {
			t.Errorf("Some(%q): %d, not %d", p, len(got), len(want))
		}
	})
	if seen[true] == 0 || seen[false] == 0 {
		t.Errorf("seen: %v", seen)
	}
}

// Texts on which trying all places of all pieces would not end.
func TestMatchEndsSoon(t *testing.T) {
	p, s := strings.Repeat("...a", 5000), strings.Repeat("a", 10000)
	if !pat.Match(p, s) || pat.Match(p+"b", s) || pat.Match(p+"...b...", s) || pat.Match(p+p+"...a", s) {
		t.Error("of many a")
	}
	if !pat.Match(strings.Repeat("...", 10000), s) || !pat.Match(strings.Repeat("/...", 10000), strings.Repeat("/", 9999)) || pat.Match(strings.Repeat("/...", 10000), strings.Repeat("/", 9998)) {
		t.Error("of many ...")
	}
}

func TestCheckTakesPatterns(t *testing.T) {
	for _, p := range []string{
		"a", "a/b", "a.b-c_9/x", "tencharsxx", "a/b/c/d/e", "a/v2",
		"...", "a...", "...a", "a...b", "a/...", ".../a", "a/.../b", "a...b/c", "......", "...-...", ".../.../.../.../...", "a..b...",
		"....", ".....", "a....", "a.....b", "a/....", "..../....",

		// An x is one byte, and so are the bounds told.
		"ninechars...", "...ninechars", "eightcha......", strings.Repeat("...", 10), "a/b/c/d/ninechars...",

		// The suffix does not count.
		"a/v0", "a/v1", "a/v02", "a/v1000000", "a/v999999999", ".../v1", ".../v0", "a.../v01", "a/v...", "a/v1...", "a/...v1", "v1", "v...",
	} {
		if err := pat.Check(p); err != nil {
			t.Errorf("Check(%q): %v", p, err)
		}
	}
}

func TestCheckTellsWhatIsNone(t *testing.T) {
	for _, c := range []struct {
		p   string
		err error
	}{
		{"", api.ErrText}, {"/", api.ErrText}, {"a/", api.ErrText}, {"/a", api.ErrText}, {".../", api.ErrText}, {"/...", api.ErrText}, {"a//...", api.ErrText}, {"...//...", api.ErrText}, {"A...", api.ErrText}, {"...A", api.ErrText}, {".../A", api.ErrText},
		{"a@...", api.ErrText}, {"...@v1.0.0", api.ErrText}, {"... ", api.ErrText}, {"a/... b", api.ErrText}, {"a*", api.ErrText}, {"...\n", api.ErrText}, {"...\u00e9", api.ErrText}, {"...\xff", api.ErrText}, {"\u2026", api.ErrText}, {"..\u2024", api.ErrText},
		{".", api.ErrText}, {"..", api.ErrText}, {"a/..", api.ErrText}, {"../...", api.ErrText}, {"./...", api.ErrText}, {".../.", api.ErrText}, {"A/v1", api.ErrText}, {"/v1", api.ErrText},

		{".../.../.../.../.../...", api.ErrBound}, {"a/b/c/d/e/...", api.ErrBound}, {"elevenchars", api.ErrBound}, {"elevenchars...", api.ErrBound}, {"tencharsxx...", api.ErrBound}, {"...tencharsxx", api.ErrBound}, {"ninechars......", api.ErrBound}, {"ninechars....", api.ErrBound},
		{strings.Repeat("...", 11), api.ErrBound}, {strings.Repeat("...", 5000), api.ErrBound}, {".../elevenchars/...", api.ErrBound}, {"a/b/c/d/e/v1", api.ErrBound}, {"elevenchars/v1", api.ErrBound}, {"a/v1000000000", api.ErrBound},

		// Out of bounds, and wrong elsewhere too.
		{"elevenchars/A...", api.ErrText}, {"a/b/c/d/e/.../", api.ErrText}, {"elevenchars.../..", api.ErrText},
	} {
		if err := pat.Check(c.p); err != c.err {
			t.Errorf("Check(%.40q): %v, not %v", c.p, err, c.err)
		}
	}
}

// withX puts an x in the place of each `...`, byte by byte.
func withX(p string) string {
	out := ""
	for i := 0; i < len(p); i++ {
		if strings.HasPrefix(p[i:], "...") {
			out += "x"
			i += 2
		} else {
			out += p[i : i+1]
		}
	}
	return out
}

func TestCheckOfManyTexts(t *testing.T) {
	seen := map[error]int{}
	try := func(p string) {
		of := mod.Path(withX(p))
		want := of
		if of == api.ErrMajor {
			want = nil
		}
		seen[of]++
		if err := pat.Check(p); err != want {
			t.Errorf("Check(%q): %v, not %v", p, err, want)
		}
	}
	samples.EachText("av1./A", 6, try)
	samples.EachText("a./", 6, func(s string) { try("eightcha" + s) })
	samples.EachText("v1./", 6, func(s string) { try("a/b/" + s) })
	for _, err := range []error{nil, api.ErrText, api.ErrBound, api.ErrMajor} {
		if seen[err] == 0 {
			t.Errorf("no text with %v", err)
		}
	}
}

// A pattern without `...` is a path, whatever its suffix.
func TestCheckOfPathsIsThatOfModules(t *testing.T) {
	for _, p := range texts("av2./", 6) {
		if pat.Wild(p) {
			continue
		}
		if err := mod.Path(p); err != api.ErrMajor && pat.Check(p) != err {
			t.Errorf("Check(%q): not %v", p, err)
		}
	}
}

func TestWild(t *testing.T) {
	for p, want := range map[string]bool{
		"...": true, "....": true, "a...": true, "...a": true, "a...b": true, "a/...": true, "a..../b": true, "A ...": true, "/...": true,
		"": false, "a": false, ".": false, "..": false, "a..b": false, "a./..b": false, "../.": false, ". . .": false, "a*": false, "\u2026": false,
	} {
		if pat.Wild(p) != want {
			t.Errorf("Wild(%q): not %v", p, want)
		}
	}
}

func TestSome(t *testing.T) {
	l := strings.Fields("b a/x a ab a/y/z a b/a a/x")
	for p, want := range map[string]string{
		"a": "a a", "b": "b", "q": "", "": "", "a/...": "a/x a a/y/z a a/x", "a...": "a/x a ab a/y/z a a/x", "...": "b a/x a ab a/y/z a b/a a/x", ".../a": "b/a", "...a": "a a b/a", ".../...": "b a/x a ab a/y/z a b/a a/x",
		"...b...": "b ab b/a", "a/x": "a/x a/x", "q...": "", "A...": "", "a/.../z": "a/y/z", "....": "",
	} {
		if got := strings.Join(pat.Some(p, l), " "); got != want {
			t.Errorf("Some(%q): %s, not %s", p, got, want)
		}
	}
	for _, of := range [][]string{nil, {}} {
		for _, p := range []string{"", "a", "...", "a/..."} {
			if got := pat.Some(p, of); len(got) != 0 {
				t.Errorf("Some(%q) of nothing: %q", p, got)
			}
		}
	}
	if got := pat.Some("...", []string{"", "A", "\xff", ""}); !slices.Equal(got, []string{"", "A", "\xff", ""}) {
		t.Errorf("Some of texts that are no paths: %q", got)
	}
}

func TestAPathMatchesItself(t *testing.T) {
	for _, p := range append(texts("av1./", 6), "tencharsxx", "a/b/c/d/e", "A\xff", strings.Repeat("a/", 1000)) {
		if !pat.Match(p, p) {
			t.Errorf("%q does not match itself", p)
		}
		if !pat.Match("...", p) {
			t.Errorf("... does not match %q", p)
		}
	}
}

// What matches a pattern matches it also with `...` in the place of any part. (No dot alone stands ahead of that place: of more than three dots in a row the first ones are `...`.)
func TestWhatMatchesAPartMatchesAnything(t *testing.T) {
	all := texts("ab/.", 4)
	tries := 0
	samples.EachList([]string{"a", "b", "/", "...", ".b"}, 4, func(parts []string) {
		some := pat.Some(strings.Join(parts, ""), all)
		for from := range parts {
			for to := from + 1; to <= len(parts); to++ {
				wider := strings.Join(parts[:from], "") + "..." + strings.Join(parts[to:], "")
				tries += len(some)
				if got := pat.Some(wider, some); !slices.Equal(got, some) {
					t.Errorf("%q matches less than %q: %q, not %q", wider, parts, got, some)
				}
			}
		}
	})
	if tries == 0 {
		t.Error("nothing matches")
	}
}

func TestListsAreOnlyRead(t *testing.T) {
	of := []string{"b", "a/x", "a", "ab"}
	for _, p := range []string{"...", "a...", "a/...", "a", "q", "behind", ""} {
		l := samples.Spare(of, "behind", "a/behind")
		before := slices.Clone(l[:cap(l)])
		want := pat.Some(p, of)
		got := pat.Some(p, l)
		if !slices.Equal(got, want) {
			t.Errorf("Some(%q): %q, not %q", p, got, want)
		}
		// What is written into the answer, also behind its end, nobody else sees.
		got = got[:cap(got)]
		for i := range got {
			got[i] = "written"
		}
		if !slices.Equal(l[:cap(l)], before) {
			t.Errorf("Some(%q): what was handed over has changed: %q", p, l[:cap(l)])
		}
		if again := pat.Some(p, l); !slices.Equal(again, want) {
			t.Errorf("Some(%q) again: %q, not %q", p, again, want)
		}
	}
}
