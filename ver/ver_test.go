package ver_test

import (
	"math"
	"reflect"
	"regexp"
	"slices"
	"strings"
	"testing"

	"pewholder/api"
	"pewholder/samples"
	"pewholder/ver"
)

// rising holds versions of every kind, each less than the ones behind it.
var rising = []string{
	"v0.0.0--", "v0.0.0-a", "v0.0.0", "v0.0.1", "v0.0.9", "v0.0.10", "v0.1.0-z", "v0.1.0", "v0.9.9", "v0.10.0",
	"v1.0.0-0", "v1.0.0-0.0", "v1.0.0-0.a", "v1.0.0-1", "v1.0.0-2", "v1.0.0-10", "v1.0.0-10.9", "v1.0.0-999999",
	"v1.0.0--", "v1.0.0--1", "v1.0.0-0a", "v1.0.0-10a", "v1.0.0-9a", "v1.0.0-A", "v1.0.0-Z", "v1.0.0-a", "v1.0.0-a.0",
	"v1.0.0-a.1.1.1.1", "v1.0.0-a.2", "v1.0.0-a.10", "v1.0.0-a.b", "v1.0.0-a-", "v1.0.0-a-b", "v1.0.0-aa", "v1.0.0-ab",
	"v1.0.0-b", "v1.0.0-rc.2", "v1.0.0-rc.10", "v1.0.0", "v1.0.1-0", "v1.0.1", "v1.999999.0", "v2.0.0", "v10.0.0",
	"v999999.999999.999999-a.b.c.d.e", "v999999.999999.999999",
}

// noVersions are texts of no version, with the error that says so.
var noVersions = []struct {
	text string
	err  error
}{
	{"", api.ErrText}, {"v", api.ErrText}, {"-", api.ErrText}, {"1.2.3", api.ErrText}, {"V1.2.3", api.ErrText},
	{"vv1.2.3", api.ErrText}, {"v1", api.ErrText}, {"v1.2", api.ErrText}, {"v1.2.3.4", api.ErrText}, {"v1..3", api.ErrText},
	{"v.2.3", api.ErrText}, {"v1.2.", api.ErrText}, {"v1.2.3.", api.ErrText}, {"v1.2-a", api.ErrText}, {"v-a", api.ErrText},
	{"v01.2.3", api.ErrText}, {"v1.00.3", api.ErrText}, {"v1.2.03", api.ErrText}, {"v1.2.+3", api.ErrText},
	{"v1.2.-3", api.ErrText}, {"v1.2.3a", api.ErrText}, {"v1.2.0x3", api.ErrText}, {"v1.2.1_0", api.ErrText},
	{" v1.2.3", api.ErrText}, {"v1.2.3 ", api.ErrText}, {"v1.2.3\n", api.ErrText}, {"v1.2.3+a", api.ErrText},
	{"v1.2.\u0663", api.ErrText}, {"v1.2.3-\u00e9", api.ErrText}, {"v1.2.3-\xff", api.ErrText}, {"v1.2.3-a\x00", api.ErrText},
	{"v1.2.3-", api.ErrText}, {"v1.2.3-.", api.ErrText}, {"v1.2.3-.a", api.ErrText}, {"v1.2.3-a.", api.ErrText},
	{"v1.2.3-a..b", api.ErrText}, {"v1.2.3-a_b", api.ErrText}, {"v1.2.3-a b", api.ErrText}, {"v1.2.3-00", api.ErrText},
	{"v1.2.3-01", api.ErrText}, {"v1.2.3-a.01", api.ErrText}, {"v1.2.3-ninechars", api.ErrText},
	{"v1.2.3-a.ninechars", api.ErrText}, {"v1.2.3-123456789", api.ErrText},

	{"v1000000.2.3", api.ErrBound}, {"v1.1000000.3", api.ErrBound}, {"v1.2.1000000", api.ErrBound},
	{"v1.2.3-1000000", api.ErrBound}, {"v1.2.3-99999999", api.ErrBound}, {"v1.2.3-a.b.c.d.e.f", api.ErrBound},
	{"v1.2.3-0.0.0.0.0.0.0", api.ErrBound}, {"v18446744073709551617.0.0", api.ErrBound},
	{"v0.0." + strings.Repeat("9", 1000), api.ErrBound}, {"v0.0.0-a" + strings.Repeat(".a", 1000), api.ErrBound},
	{"v1000000.1000000.1000000-1000000.b.c.d.e.f", api.ErrBound},

	// Out of bounds, and wrong elsewhere too, ahead of it or behind it.
	{"v1000000.2", api.ErrText}, {"v1000000.2.3.4", api.ErrText}, {"v1000000.2.x", api.ErrText}, {"vx.2.1000000", api.ErrText},
	{"v1000000.2.3-", api.ErrText}, {"1000000.2.3", api.ErrText}, {"v01000000.2.3", api.ErrText}, {"v1.2.3-01000000", api.ErrText},
	{"v1.2.3-1000000.", api.ErrText}, {"v1.2.3-_.1000000", api.ErrText}, {"v1.2.3-a.b.c.d.e.", api.ErrText},
	{"v1.2.3-a.b.c.d.e.ninechars", api.ErrText}, {"v01.2.3-a.b.c.d.e.f", api.ErrText},
}

func TestCheckTellsWhatIsNoVersion(t *testing.T) {
	for _, c := range noVersions {
		if err := ver.Check(c.text); err != c.err {
			t.Errorf("Check(%.40q): %v, not %v", c.text, err, c.err)
		}
		p, err := ver.Split(c.text)
		if err != c.err || !reflect.DeepEqual(p, ver.Parts{}) {
			t.Errorf("Split(%.40q): %v, %v, not %v", c.text, p, err, c.err)
		}
	}
}

func TestCheckTakesVersions(t *testing.T) {
	edges := []string{"v0.0.0-eightcha", "v0.0.0---------", "v0.0.0-0.a.1.b.2", "v0.0.0-01a", "v0.0.0-0-", "v0.0.0-1234567a"}
	for _, s := range append(edges, rising...) {
		if err := ver.Check(s); err != nil {
			t.Errorf("Check(%q): %v", s, err)
		}
	}
}

func TestCheckOfEachByte(t *testing.T) {
	letters := "abcdefghijklmnopqrstuvwxyzABCDEFGHIJKLMNOPQRSTUVWXYZ"
	for i := range 256 {
		c := string([]byte{byte(i)})
		right := strings.Contains(letters+"0123456789-", c)
		if (ver.Check("v1.2.3-x"+c) == nil) != right {
			t.Errorf("byte %d in a part", i)
		}
		digit := strings.Contains("0123456789", c)
		if (ver.Check("v1.2.3"+c) == nil) != digit {
			t.Errorf("byte %d in a number", i)
		}
	}
}

func TestCheckOfAllShortTexts(t *testing.T) {
	part := `(0|[1-9][0-9]*|[0-9]*[a-zA-Z-][0-9a-zA-Z-]*)`
	version := regexp.MustCompile(`^v(0|[1-9][0-9]*)\.(0|[1-9][0-9]*)\.(0|[1-9][0-9]*)(-` + part + `(\.` + part + `)*)?$`)
	seen := 0
	try := func(s string) {
		want := error(nil)
		if !version.MatchString(s) {
			want = api.ErrText
		} else {
			seen++
		}
		if err := ver.Check(s); err != want {
			t.Errorf("Check(%q): %v, not %v", s, err, want)
		}
	}
	samples.EachText("v01.-a", 6, try)
	samples.EachText("01.-a_", 6, func(s string) { try("v1.0." + s) })
	if seen == 0 {
		t.Error("no version among them")
	}
}

func TestSplit(t *testing.T) {
	for _, c := range []struct {
		text string
		want ver.Parts
	}{
		{"v0.0.0", ver.Parts{}},
		{"v1.20.3", ver.Parts{Major: 1, Minor: 20, Patch: 3}},
		{"v1.20.3-rc.2", ver.Parts{Major: 1, Minor: 20, Patch: 3, Pre: []string{"rc", "2"}}},
		{"v1.2.3--a-.-", ver.Parts{Major: 1, Minor: 2, Patch: 3, Pre: []string{"-a-", "-"}}},
		{"v999999.0.999999-999999.b.c.d.eightcha", ver.Parts{Major: 999999, Patch: 999999, Pre: []string{"999999", "b", "c", "d", "eightcha"}}},
	} {
		p, err := ver.Split(c.text)
		if err != nil || !slices.Equal(p.Pre, c.want.Pre) {
			t.Errorf("Split(%q): %v, %v", c.text, p, err)
		}
		if p.Major != c.want.Major || p.Minor != c.want.Minor || p.Patch != c.want.Patch {
			t.Errorf("Split(%q): %v", c.text, p)
		}
		if s := ver.Text(c.want); s != c.text {
			t.Errorf("Text(%v): %q", c.want, s)
		}
	}
}

func TestSplitAnswersNewMemory(t *testing.T) {
	p, _ := ver.Split("v1.2.3-a.b")
	p.Pre[0] = "x"
	if q, _ := ver.Split("v1.2.3-a.b"); !slices.Equal(q.Pre, []string{"a", "b"}) {
		t.Error(q)
	}
}

func TestTextOfWhatWasSplit(t *testing.T) {
	for _, s := range rising {
		if p, err := ver.Split(s); err != nil || ver.Text(p) != s {
			t.Errorf("%q: %v, %v", s, p, err)
		}
	}
}

func TestTextOfNoVersion(t *testing.T) {
	for _, p := range []ver.Parts{
		{Major: -1}, {Minor: -1}, {Patch: -1}, {Major: 1000000}, {Minor: 1000000}, {Patch: 1000000},
		{Major: math.MinInt}, {Patch: math.MaxInt},
		{Pre: []string{""}}, {Pre: []string{"a", ""}}, {Pre: []string{"", "a"}}, {Pre: []string{"a.b"}}, {Pre: []string{"."}},
		{Pre: []string{"01"}}, {Pre: []string{"1000000"}}, {Pre: []string{"ninechars"}}, {Pre: []string{"a b"}},
		{Pre: []string{"\u00e9"}}, {Pre: []string{"a", "b", "c", "d", "e", "f"}},
	} {
		if s := ver.Text(p); s != "" {
			t.Errorf("Text(%v): %q", p, s)
		}
	}
	if s := ver.Text(ver.Parts{Pre: []string{}}); s != "v0.0.0" {
		t.Errorf("an empty list is as none: %q", s)
	}
}

func TestLessAndMax(t *testing.T) {
	for i, a := range rising {
		for k, b := range rising {
			if ver.Less(a, b) != (i < k) {
				t.Errorf("Less(%q, %q): %v", a, b, i >= k)
			}
			if m := ver.Max(a, b); m != rising[max(i, k)] {
				t.Errorf("Max(%q, %q): %q", a, b, m)
			}
		}
	}
}

func TestLessAndMaxOfNoVersion(t *testing.T) {
	for _, c := range noVersions {
		for _, s := range []string{"v0.0.0", "v2.0.0"} {
			if ver.Less(c.text, s) || ver.Less(s, c.text) {
				t.Errorf("Less of %.40q and %q", c.text, s)
			}
			if ver.Max(c.text, s) != s || ver.Max(s, c.text) != s {
				t.Errorf("Max of %.40q and %q", c.text, s)
			}
		}
		if ver.Less(c.text, "v1") || ver.Max(c.text, "v1") != "" || ver.Max(c.text, c.text) != "" {
			t.Errorf("%.40q and no version either", c.text)
		}
	}
}

func TestSort(t *testing.T) {
	var l []string
	for i := range rising {
		far := (i + len(rising)/2) % len(rising)
		l = append(l, rising[len(rising)-1-i], "v1.0", rising[far])
	}
	before := slices.Clone(l)
	if s := ver.Sort(l); !slices.Equal(s, rising) {
		t.Error(s)
	}
	if !slices.Equal(l, before) {
		t.Error("what was handed over has changed")
	}
}

func TestSortOfNothing(t *testing.T) {
	for _, l := range [][]string{nil, {}, {""}, {"x", "v1", "v1.0.1000000"}} {
		if s := ver.Sort(l); len(s) != 0 {
			t.Errorf("Sort(%q): %q", l, s)
		}
	}
}

func TestSortSharesNoMemory(t *testing.T) {
	whole := []string{"v2.0.0", "v1.0.0", "v0.1.0", "behind"}
	s := ver.Sort(whole[:2])
	if !slices.Equal(s, []string{"v1.0.0", "v2.0.0"}) {
		t.Error(s)
	}
	s[0] = "x"
	_ = append(s, "y")
	if !slices.Equal(whole, []string{"v2.0.0", "v1.0.0", "v0.1.0", "behind"}) {
		t.Error(whole)
	}
}

func TestBegins(t *testing.T) {
	for _, c := range []struct {
		s     string
		so    []string
		notSo []string
	}{
		{"v1.2.3", []string{"v1", "v1.2", "v1.2.3"}, []string{"", "v", "v2", "v1.3", "v2.2", "v12", "v1.", "v1.2.", "v1.2.4", "v1.2.3-", "v1.2.3-a", "v1.2.3.4"}},
		{"v1.2.3", nil, []string{"1", "1.2", "1.2.3", "V1", "v01", "v1.02", "v.2", "v1..", "v+1", "v-1", "v1-", "v1 ", "v1.2.0", "v1000000", "v1.1000000"}},
		{"v12.34.5", []string{"v12", "v12.34"}, []string{"v1", "v12.3", "v12.345", "v1.2"}},
		{"v0.0.0", []string{"v0", "v0.0", "v0.0.0"}, []string{"v00", "v0.00", "v", "v."}},
		{"v1.2.3-rc.1", []string{"v1", "v1.2", "v1.2.3-rc.1"}, []string{"v1.2.3", "v1.2.3-rc", "v1.2.3-rc.2"}},
		{"v999999.999999.0", []string{"v999999", "v999999.999999"}, []string{"v1000000", "v999999.1000000"}},
		{"v1.2", nil, []string{"v1", "v1.2", ""}},
		{"v1000000.2.3", nil, []string{"v1000000", "v1000000.2", "v1000000.2.3"}},
		{"v1.2.1000000", nil, []string{"v1", "v1.2", "v1.2.1000000"}},
		{"", nil, []string{"", "v", "v0"}},
	} {
		for _, head := range c.so {
			if !ver.Begins(c.s, head) {
				t.Errorf("Begins(%q, %q): false", c.s, head)
			}
		}
		for _, head := range c.notSo {
			if ver.Begins(c.s, head) {
				t.Errorf("Begins(%q, %q): true", c.s, head)
			}
		}
	}
}

func TestCheckHead(t *testing.T) {
	for _, c := range []struct {
		head string
		err  error
	}{
		{"v0", nil}, {"v1", nil}, {"v0.0", nil}, {"v1.20", nil}, {"v999999", nil}, {"v999999.999999", nil},
		{"", api.ErrText}, {"v", api.ErrText}, {"1", api.ErrText}, {"V1", api.ErrText}, {"v.", api.ErrText}, {"v1.", api.ErrText}, {"v.1", api.ErrText}, {"vv1", api.ErrText},
		{"v01", api.ErrText}, {"v1.02", api.ErrText}, {"v1.2.3", api.ErrText}, {"v1.2.", api.ErrText}, {"v1-a", api.ErrText}, {"v1.2-a", api.ErrText}, {"v-1", api.ErrText}, {"v1 ", api.ErrText},
		{"v1000000", api.ErrBound}, {"v1.1000000", api.ErrBound}, {"v1000000.0", api.ErrBound}, {"v" + strings.Repeat("9", 1000), api.ErrBound},
		{"v1000000.x", api.ErrText}, {"vx.1000000", api.ErrText}, {"v1000000.", api.ErrText}, {"v1000000.1.2", api.ErrText}, {"v01000000", api.ErrText}, {"1000000", api.ErrText},
	} {
		if err := ver.CheckHead(c.head); err != c.err {
			t.Errorf("CheckHead(%.40q): %v, not %v", c.head, err, c.err)
		}
	}
}

// someVersions are all with few numbers and all short Pres of few letters.
func someVersions() []string {
	var l []string
	samples.EachText("019.-aB", 4, func(tail string) {
		if s := "v1.0.0-" + tail; ver.Check(s) == nil {
			l = append(l, s)
		}
	})
	samples.EachText("01.", 5, func(core string) {
		if s := "v" + core; ver.Check(s) == nil {
			l = append(l, s, s+"-0", s+"-a")
		}
	})
	return l
}

func TestOfUnlikeVersionsOneIsLess(t *testing.T) {
	l := ver.Sort(someVersions())
	if len(l) < 1000 {
		t.Fatal("too few to tell anything:", len(l))
	}
	for i, a := range l {
		// Each against all is slow; each against the next ones, and some far off, tells the same of a list that is sorted.
		for k := i; k < len(l); k += 1 + (k-i)/8 {
			b := l[k]
			if ver.Less(a, b) != (i != k) || ver.Less(b, a) {
				t.Fatalf("%q, %q: %v, %v", a, b, ver.Less(a, b), ver.Less(b, a))
			}
			if (a == b) != (i == k) {
				t.Fatalf("%q is there twice", a)
			}
		}
	}
}
