package query_test

import (
	"reflect"
	"regexp"
	"slices"
	"strconv"
	"strings"
	"testing"

	"pewholder/api"
	"pewholder/index"
	"pewholder/query"
	"pewholder/samples"
	"pewholder/ver"
)

// rightQueries are queries, whatever they pick.
var rightQueries = []string{
	"latest", "upgrade", "patch", "none",
	"v0.0.0", "v1.20.3", "v1.20.3-rc.2", "v999999.999999.999999", "v1.2.3-a.b.c.d.eightcha", "v1.2.3--", "v1.2.3-latest",
	"v0", "v1", "v20", "v999999", "v0.0", "v1.20", "v999999.999999",
	"<v1.2.3", "<=v1.2.3", ">v1.2.3", ">=v1.2.3", "<v0.0.0", "<=v0.0.0-0", ">v1.2.3-rc.1", ">=v999999.999999.999999-eightcha",
}

func TestCheckTakesQueries(t *testing.T) {
	for _, q := range rightQueries {
		if err := query.Check(q); err != nil {
			t.Errorf("Check(%q): %v", q, err)
		}
	}
}

// wrongQueries are none, with the error that is told.
var wrongQueries = []struct {
	q   string
	err error
}{
	// Words that are nearly one.
	{"", api.ErrText}, {"Latest", api.ErrText}, {"LATEST", api.ErrText}, {"latest ", api.ErrText}, {" latest", api.ErrText}, {"late", api.ErrText}, {"latestx", api.ErrText}, {"upgrades", api.ErrText},
	{"up", api.ErrText}, {"patches", api.ErrText}, {"None", api.ErrText}, {"nonee", api.ErrText}, {"none\n", api.ErrText}, {"latest upgrade", api.ErrText}, {"...", api.ErrText}, {"\xff", api.ErrText}, {"\x00", api.ErrText},

	// Neither a version nor its beginning.
	{"v", api.ErrText}, {"1", api.ErrText}, {"1.2", api.ErrText}, {"1.2.3", api.ErrText}, {"V1", api.ErrText}, {"v1.", api.ErrText}, {"v.1", api.ErrText}, {"v1.2.", api.ErrText}, {"v1..2", api.ErrText},
	{"v01", api.ErrText}, {"v1.02", api.ErrText}, {"v1.2.03", api.ErrText}, {"v00", api.ErrText}, {"v+1", api.ErrText}, {"v-1", api.ErrText}, {"vx", api.ErrText}, {"vv1", api.ErrText}, {"v1 ", api.ErrText}, {"v1.x", api.ErrText},
	{"v1.2.3.4", api.ErrText}, {"v1-rc", api.ErrText}, {"v1.2-rc", api.ErrText}, {"v1.2.3-", api.ErrText}, {"v1.2.3-01", api.ErrText}, {"v1.2.3-a..b", api.ErrText}, {"v1.2.3-ninechars", api.ErrText}, {"v1.2.3+a", api.ErrText},

	// Signs with no version behind them, or with something else ahead of it.
	{"<", api.ErrText}, {"<=", api.ErrText}, {">", api.ErrText}, {">=", api.ErrText}, {"=", api.ErrText}, {"<v1", api.ErrText}, {"<=v1.2", api.ErrText}, {">v1", api.ErrText}, {">=v1.2", api.ErrText}, {">=v", api.ErrText},
	{"=v1.0.0", api.ErrText}, {"==v1.0.0", api.ErrText}, {"!=v1.0.0", api.ErrText}, {"<<v1.0.0", api.ErrText}, {"<>v1.0.0", api.ErrText}, {">>v1.0.0", api.ErrText}, {"=<v1.0.0", api.ErrText}, {"=>v1.0.0", api.ErrText},
	{"<==v1.0.0", api.ErrText}, {">=<v1.0.0", api.ErrText}, {"< v1.0.0", api.ErrText}, {" <v1.0.0", api.ErrText}, {"<= v1.0.0", api.ErrText}, {"v1.0.0<", api.ErrText}, {"~v1.0.0", api.ErrText}, {"^v1.0.0", api.ErrText},
	{"<latest", api.ErrText}, {">=upgrade", api.ErrText}, {"<none", api.ErrText}, {">v01.0.0", api.ErrText}, {"<v1.0.0-", api.ErrText}, {"<1.0.0", api.ErrText}, {"@v1.0.0", api.ErrText},

	// Right but for its bounds.
	{"v1000000", api.ErrBound}, {"v1.1000000", api.ErrBound}, {"v1000000.1", api.ErrBound}, {"v1000000.1000000", api.ErrBound}, {"v" + strings.Repeat("9", 1000), api.ErrBound},
	{"v1000000.0.0", api.ErrBound}, {"v1.1000000.0", api.ErrBound}, {"v1.2.1000000", api.ErrBound}, {"v1.2.3-1000000", api.ErrBound}, {"v1.2.3-a.b.c.d.e.f", api.ErrBound},
	{"<v1000000.0.0", api.ErrBound}, {"<=v1.2.1000000", api.ErrBound}, {">v1.2.3-1000000", api.ErrBound}, {">=v1.2.3-a.b.c.d.e.f", api.ErrBound},

	// Out of bounds, and wrong elsewhere too.
	{"v1000000.", api.ErrText}, {"v1000000.x", api.ErrText}, {"vx.1000000", api.ErrText}, {"v01000000", api.ErrText}, {"v1000000-a", api.ErrText}, {"v1000000.2.3.4", api.ErrText}, {"v1000000.2.x", api.ErrText},
	{"<v1000000", api.ErrText}, {">=v1.1000000", api.ErrText}, {"<<v1000000.0.0", api.ErrText}, {"=v1000000.0.0", api.ErrText}, {"1000000", api.ErrText}, {"v1.2.3-a.b.c.d.e.", api.ErrText},
}

func TestCheckTellsWhatIsNoQuery(t *testing.T) {
	for _, c := range wrongQueries {
		if err := query.Check(c.q); err != c.err {
			t.Errorf("Check(%.40q): %v, not %v", c.q, err, c.err)
		}
	}
}

func TestCheckOfAllShortTexts(t *testing.T) {
	number := `(0|[1-9][0-9]*)`
	part := `(` + number + `|[0-9]*[a-z-][0-9a-z-]*)`
	version := `v` + number + `\.` + number + `\.` + number + `(-` + part + `(\.` + part + `)*)?`
	right := regexp.MustCompile(`^(v` + number + `(\.` + number + `)?|(<|<=|>|>=)?` + version + `)$`)
	seen := map[error]int{}
	try := func(q string) {
		want := error(nil)
		if !right.MatchString(q) {
			want = api.ErrText
		}
		seen[want]++
		if err := query.Check(q); err != want {
			t.Errorf("Check(%q): %v, not %v", q, err, want)
		}
	}
	samples.EachText("v01.-", 6, try)
	samples.EachText("<>=v0", 4, func(head string) {
		try(head)
		try(head + ".1")
		try(head + ".1.0")
		try(head + ".1.0-a")
	})
	samples.EachText("a0.-", 3, func(tail string) {
		try("v1.0.0" + tail)
		try("<=v1.0.0-" + tail)
	})
	if seen[nil] == 0 || seen[api.ErrText] == 0 {
		t.Errorf("seen: %v", seen)
	}
}

// some has versions with a Pre and without, taken back and not, in each order.
const some = `a@v0.9.0
	a@v0.10.0
	a@v1.0.0-rc.2
	a@v1.0.0 needs b@v0.1.0-a
	a@v1.0.1
	a@v1.0.2 back
	a@v1.0.3-rc
	a@v1.1.0 back
	a@v1.2.0-rc.2
	a@v1.2.0-rc.10
	a@v1.2.0 back
	a@v1.3.0-a back
	a@v1.3.0 back
	a/v2@v2.0.0
	a/v2@v2.1.0-a
	a/v2@v2.2.0 back
	a/v20@v20.0.0
	b@v0.1.0-a
	b@v0.1.0-b
	b@v0.2.0 back
	c@v1.0.0-a back
	c@v1.0.0 back
	c@v1.1.0-a back
	d@v1.10.0
	d@v1.11.0
	d@v1.100.0`

func TestPick(t *testing.T) {
	l := samples.Index(some)
	if err := index.Check(l); err != nil {
		t.Fatal(err)
	}
	for _, c := range []struct{ path, q, now, want string }{
		{"a", "latest", "", "v1.0.1"}, {"a", "latest", "v1.3.0", "v1.0.1"}, {"a", "latest", "x", "v1.0.1"}, {"a/v2", "latest", "", "v2.0.0"}, {"b", "latest", "", "v0.1.0-b"}, {"c", "latest", "", "v1.1.0-a"}, {"d", "latest", "", "v1.100.0"},

		// No less than now, whatever now is; also where there is nothing like it.
		{"a", "upgrade", "", "v1.0.1"}, {"a", "upgrade", "what", "v1.0.1"}, {"a", "upgrade", "v1", "v1.0.1"}, {"a", "upgrade", "v1000000.0.0", "v1.0.1"}, {"a", "upgrade", "none", "v1.0.1"},
		{"a", "upgrade", "v0.9.0", "v1.0.1"}, {"a", "upgrade", "v1.0.1", "v1.0.1"}, {"a", "upgrade", "v1.0.2", "v1.0.2"}, {"a", "upgrade", "v1.0.3-rc", "v1.0.3-rc"}, {"a", "upgrade", "v1.3.0-a", "v1.3.0-a"},
		{"a", "upgrade", "v1.3.0", "v1.3.0"}, {"a", "upgrade", "v1.0.1-z", "v1.0.1"}, {"a", "upgrade", "v1.9.0", "v1.9.0"}, {"b", "upgrade", "v0.1.0-a", "v0.1.0-b"}, {"b", "upgrade", "v0.2.0", "v0.2.0"}, {"c", "upgrade", "v1.0.0", "v1.1.0-a"},

		// Of the same MAJOR and MINOR, and no less than now, which need not be there.
		{"a", "patch", "v0.9.0", "v0.9.0"}, {"a", "patch", "v1.0.0", "v1.0.1"}, {"a", "patch", "v1.0.0-rc.2", "v1.0.1"}, {"a", "patch", "v1.0.1", "v1.0.1"}, {"a", "patch", "v1.0.1-z", "v1.0.1"},
		{"a", "patch", "v1.0.2", "v1.0.3-rc"}, {"a", "patch", "v1.0.2-z", "v1.0.3-rc"}, {"a", "patch", "v1.0.3-rc", "v1.0.3-rc"}, {"a", "patch", "v1.1.0", "v1.1.0"}, {"a", "patch", "v1.2.0-rc.2", "v1.2.0-rc.10"},
		{"a", "patch", "v1.2.0-rc.9", "v1.2.0-rc.10"}, {"a", "patch", "v1.2.0-rc.11", "v1.2.0"}, {"a", "patch", "v1.2.0", "v1.2.0"}, {"a", "patch", "v1.3.0-a", "v1.3.0"}, {"a", "patch", "v0.10.0", "v0.10.0"},
		{"d", "patch", "v1.10.0", "v1.10.0"}, {"d", "patch", "v1.100.0", "v1.100.0"}, {"a/v2", "patch", "v2.0.0", "v2.0.0"},
		{"a", "patch", "", "v1.0.1"}, {"a", "patch", "what", "v1.0.1"}, {"a", "patch", "v1", "v1.0.1"}, {"a", "patch", "v0.9", "v1.0.1"}, {"a", "patch", "v1000000.0.0", "v1.0.1"}, {"a", "patch", "none", "v1.0.1"}, {"b", "patch", "", "v0.1.0-b"}, {"c", "patch", "x", "v1.1.0-a"},

		// None is always to be had.
		{"a", "none", "", "none"}, {"a", "none", "v1.0.0", "none"}, {"q", "none", "", "none"}, {"", "none", "", "none"}, {"A", "none", "x", "none"},

		// A version is itself, taken back or not.
		{"a", "v0.9.0", "", "v0.9.0"}, {"a", "v1.0.2", "", "v1.0.2"}, {"a", "v1.0.3-rc", "v1.0.0", "v1.0.3-rc"}, {"a", "v1.3.0", "v1.0.0", "v1.3.0"}, {"a", "v1.3.0-a", "", "v1.3.0-a"}, {"a/v2", "v2.1.0-a", "", "v2.1.0-a"},

		// Its beginning, by numbers and not by letters.
		{"a", "v0", "", "v0.10.0"}, {"a", "v1", "", "v1.0.1"}, {"a", "v1.0", "", "v1.0.1"}, {"a", "v1.1", "", "v1.1.0"}, {"a", "v1.2", "", "v1.2.0-rc.10"}, {"a", "v1.3", "", "v1.3.0"}, {"a", "v0.9", "v1.0.0", "v0.9.0"},
		{"a/v2", "v2", "", "v2.0.0"}, {"a/v2", "v2.1", "", "v2.1.0-a"}, {"a/v2", "v2.2", "", "v2.2.0"}, {"a/v20", "v20", "", "v20.0.0"}, {"b", "v0.1", "", "v0.1.0-b"}, {"b", "v0", "", "v0.1.0-b"}, {"c", "v1", "", "v1.1.0-a"}, {"c", "v1.0", "", "v1.0.0"},
		{"d", "v1", "", "v1.100.0"}, {"d", "v1.10", "", "v1.10.0"}, {"d", "v1.11", "", "v1.11.0"},

		// Below: the greatest.
		{"a", "<v1.0.1", "", "v1.0.0"}, {"a", "<=v1.0.1", "", "v1.0.1"}, {"a", "<v1.0.0", "", "v0.10.0"}, {"a", "<=v1.0.0-rc.2", "", "v0.10.0"}, {"a", "<v0.10.0", "", "v0.9.0"}, {"a", "<=v0.9.0", "", "v0.9.0"},
		{"a", "<v999999.0.0", "", "v1.0.1"}, {"a", "<=v1.3.0", "v1.3.0", "v1.0.1"}, {"b", "<v0.1.0", "", "v0.1.0-b"}, {"b", "<v0.1.0-b", "", "v0.1.0-a"}, {"b", "<=v0.2.0", "", "v0.1.0-b"}, {"c", "<v1.1.0", "", "v1.1.0-a"}, {"c", "<v1.1.0-a", "", "v1.0.0"}, {"c", "<v1.0.0", "", "v1.0.0-a"},

		// Above: the least.
		{"a", ">v0.0.0", "", "v0.9.0"}, {"a", ">v0.9.0", "", "v0.10.0"}, {"a", ">=v0.9.0", "", "v0.9.0"}, {"a", ">v0.10.0", "", "v1.0.0"}, {"a", ">=v1.0.0", "v0.9.0", "v1.0.0"}, {"a", ">v1.0.0", "", "v1.0.1"}, {"a", ">v1.0.1", "", "v1.0.3-rc"}, {"a", ">=v1.0.2", "", "v1.0.3-rc"},
		{"a", ">v1.0.3-rc", "", "v1.2.0-rc.2"}, {"a", ">v1.2.0-rc.2", "", "v1.2.0-rc.10"}, {"a", ">=v1.2.0-rc.3", "", "v1.2.0-rc.10"}, {"a", ">v1.2.0-rc.10", "", "v1.2.0"}, {"a", ">=v1.2.0", "", "v1.2.0"}, {"a", ">v1.2.0", "", "v1.3.0-a"}, {"a", ">=v1.3.0", "", "v1.3.0"},
		{"b", ">v0.0.1", "", "v0.1.0-a"}, {"b", ">v0.1.0", "", "v0.2.0"}, {"c", ">v0.0.1", "", "v1.0.0-a"}, {"c", ">=v1.0.0", "", "v1.0.0"}, {"d", ">v1.10.0", "", "v1.11.0"}, {"d", ">v1.11.0", "", "v1.100.0"},
	} {
		if got, err := query.Pick(l, c.path, c.q, c.now); got != c.want || err != nil {
			t.Errorf("Pick of %s by %s from %q: %q, %v, not %s", c.path, c.q, c.now, got, err, c.want)
		}
	}
}

func TestPickWhereThereIsNone(t *testing.T) {
	for _, c := range []struct{ path, q, now string }{
		{"q", "latest", ""}, {"q", "upgrade", ""}, {"q", "upgrade", "v1.0.0"}, {"q", "patch", ""}, {"q", "patch", "v1.0.0"}, {"q", "v1.0.0", ""}, {"q", "v1", ""}, {"q", "<v9.0.0", ""}, {"q", "<=v9.0.0", ""}, {"q", ">v0.0.0", ""}, {"q", ">=v0.0.0", ""},
		{"", "latest", ""}, {"A", "latest", ""}, {"a/", "latest", ""}, {"a/v3", "upgrade", "v3.0.0"}, {"a@v1.0.0", "v1.0.0", ""}, {"\xff", "upgrade", "v1.0.0"}, {"aa", ">=v0.0.0", ""},

		{"a", "patch", "v1.0.3"}, {"a", "patch", "v1.3.1-a"}, {"a", "patch", "v1.4.0"}, {"a", "patch", "v2.0.0"}, {"a", "patch", "v0.1.0"}, {"a", "patch", "v10.0.0"}, {"d", "patch", "v1.1.0"}, {"d", "patch", "v1.0.0"},
		{"a", "v1.0.3", ""}, {"a", "v1.0.0-rc", ""}, {"a", "v2.0.0", ""}, {"a", "v1.0.0-rc.20", ""}, {"a/v2", "v1.0.0", ""}, {"a", "v1.9.0", "v1.9.0"},
		{"a", "v2", ""}, {"a", "v10", ""}, {"a", "v1.4", ""}, {"a", "v0.1", ""}, {"d", "v1.1", ""}, {"d", "v11", ""}, {"a/v2", "v1", ""}, {"a/v2", "v20", ""}, {"a/v20", "v2", ""}, {"b", "v0.3", ""},
		{"a", "<v0.9.0", ""}, {"a", "<=v0.9.0-z", ""}, {"a", "<v0.0.0-0", ""}, {"a", ">v1.3.0", ""}, {"a", ">=v1.3.1-0", ""}, {"b", "<v0.1.0-a", ""}, {"b", ">v0.2.0", ""}, {"a/v2", "<v2.0.0", ""}, {"a/v2", ">v2.2.0", "v2.2.0"},
	} {
		for _, l := range [][]api.Entry{samples.Index(some), nil, {}} {
			if got, err := query.Pick(l, c.path, c.q, c.now); got != "" || err != api.ErrNone {
				t.Errorf("Pick of %s by %s from %q: %q, %#v", c.path, c.q, c.now, got, err)
			}
		}
	}
}

func TestPickOfNothing(t *testing.T) {
	for _, q := range rightQueries {
		for _, l := range [][]api.Entry{nil, {}} {
			want, wantErr := "", error(api.ErrNone)
			if q == "none" {
				want, wantErr = "none", nil
			}
			if got, err := query.Pick(l, "a", q, "v1.0.0"); got != want || err != wantErr {
				t.Errorf("Pick by %s: %q, %#v", q, got, err)
			}
		}
	}
}

// A wrong query goes ahead of a wrong index, and both of what is not there.
func TestWrongQueries(t *testing.T) {
	for _, c := range wrongQueries {
		for _, text := range []string{"", some, "a@v2.0.0", "b@v1.0.0\na@v1.0.0", samples.Lines(101)} {
			for _, path := range []string{"a", "q", ""} {
				for _, now := range []string{"", "v1.0.0", "x"} {
					if got, err := query.Pick(samples.Index(text), path, c.q, now); got != "" || err != c.err {
						t.Errorf("Pick of %s by %.40q in %.80s: %q, %#v", path, c.q, text, got, err)
					}
				}
			}
		}
	}
}

func TestWrongIndexes(t *testing.T) {
	for _, c := range []struct {
		index string
		err   error
		at    int
	}{
		{samples.Lines(101), api.ErrFull, -1},
		{"a@v1.0.0\nb@", api.ErrText, 1},
		{"a@v1.0.0\nb@v1000000.0.0", api.ErrBound, 1},
		{"a@v2.0.0", api.ErrMajor, 0},
		{"a@v1.0.0\na@v1.0.0", api.ErrOrder, 1},
		{"a@v1.0.0\na@v1.0.0-rc", api.ErrOrder, 1},
		{"a@v1.0.0 needs a@v1.0.0", api.ErrShape, 0},
		{"a@v1.0.0\nb@v1.0.0 has x x", api.ErrOrder, 1},
		{"a@v1.0.0\nb@v1.0.0 needs c@v1.0.0", api.ErrNone, 1},
		{"a@v1.0.0 needs a/v2@v2.0.0", api.ErrNone, 0},
	} {
		for _, q := range rightQueries {
			// Whether there is something to be had, or not.
			for _, path := range []string{"a", "b", "q", ""} {
				for _, now := range []string{"", "v1.0.0", "x"} {
					if got, err := query.Pick(samples.Index(c.index), path, q, now); got != "" || !samples.SameFault(err, c.err, c.at) {
						t.Errorf("Pick of %s by %s in %.80s: %q, %#v", path, q, c.index, got, err)
					}
				}
			}
		}
	}
}

func TestPickOfAllThereMayBe(t *testing.T) {
	var lines []string
	for i := range api.MaxIndex {
		lines = append(lines, "a@v1."+strconv.Itoa(i/10)+"."+strconv.Itoa(i%10*3))
	}
	l := samples.Index(strings.Join(lines, "\n"))
	for i, e := range l {
		for _, c := range []struct {
			q  string
			at int
		}{
			{"latest", 99}, {"upgrade", 99}, {"patch", i/10*10 + 9}, {e.Mod.Ver, i}, {"v1." + strconv.Itoa(i/10), i/10*10 + 9}, {"v1", 99},
			{"<" + e.Mod.Ver, i - 1}, {"<=" + e.Mod.Ver, i}, {">" + e.Mod.Ver, i + 1}, {">=" + e.Mod.Ver, i},
		} {
			want, wantErr := "", error(api.ErrNone)
			if 0 <= c.at && c.at < len(l) {
				want, wantErr = l[c.at].Mod.Ver, nil
			}
			if got, err := query.Pick(l, "a", c.q, e.Mod.Ver); got != want || err != wantErr {
				t.Errorf("Pick by %s from %s: %q, %v", c.q, e.Mod.Ver, got, err)
			}
		}
	}
}

// row is versions, rising, of which some are there; the others are asked for all the same.
var row = strings.Fields("v0.8.0 v0.9.0-a v0.9.0 v0.9.1 v0.10.0-a.9 v0.10.0-a.10 v0.10.0 v1.0.0-rc v1.0.0 v1.0.1-a v1.0.1 v1.1.0")

func placeOf(v string) int {
	return slices.Index(row, v)
}

// eachIndex hands over many indexes in which some versions of m are there, are taken back, or are not there, among other paths.
func eachIndex(take func([]api.Entry)) {
	there := strings.Fields("v0.9.0-a v0.9.0 v0.10.0-a.10 v0.10.0 v1.0.1-a v1.0.1")
	samples.EachList([]int{0, 1, 2}, len(there), func(kinds []int) {
		if len(kinds) < len(there) {
			return
		}
		l := samples.Index("l@v1.0.0")
		for i, kind := range kinds {
			if kind > 0 {
				l = append(l, api.Entry{Mod: api.Mod{Path: "m", Ver: there[i]}, Back: kind == 2})
			}
		}
		take(append(l, samples.Index("m/v2@v2.0.0\nn@v0.8.0\nn@v0.9.1\nn@v1.1.0")...))
	})
}

// signOf is what stands ahead of a version of the row, or of its beginning; of a word it is the word.
func signOf(q string) string {
	return strings.TrimRight(q, "v.-0123456789rca")
}

// asked tells whether a query asks for a version: by their places in the row, and by their letters.
func asked(q, now, v string) bool {
	sign := signOf(q)
	of := strings.TrimPrefix(q, sign)
	switch {
	case q == "latest" || q == "upgrade" || q == "patch" && placeOf(now) < 0:
		return true
	case q == "patch":
		minor := now[:strings.LastIndex(strings.Split(now, "-")[0], ".")+1]
		return strings.HasPrefix(v, minor) && placeOf(v) >= placeOf(now)
	case sign == "<":
		return placeOf(v) < placeOf(of)
	case sign == "<=":
		return placeOf(v) <= placeOf(of)
	case sign == ">":
		return placeOf(v) > placeOf(of)
	case sign == ">=":
		return placeOf(v) >= placeOf(of)
	}
	return v == q || placeOf(q) < 0 && strings.HasPrefix(v+".", q+".")
}

// wantOfPick goes through the entries once: one that is better, or as good and nearer to what is asked for, goes ahead.
func wantOfPick(l []api.Entry, q, now string) string {
	picked, pickedRank := "", 0
	for _, e := range l {
		rank := 2
		if e.Back {
			rank = 1
		} else if !strings.Contains(e.Mod.Ver, "-") {
			rank = 3
		}
		ahead := rank > pickedRank || rank == pickedRank && !strings.HasPrefix(q, ">")
		if e.Mod.Path == "m" && asked(q, now, e.Mod.Ver) && ahead {
			picked, pickedRank = e.Mod.Ver, rank
		}
	}
	if q == "upgrade" && picked != "" && placeOf(now) > placeOf(picked) {
		return now
	}
	return picked
}

// checkPick holds Pick against P101 and P102; it answers whether anything was picked.
func checkPick(t *testing.T, l []api.Entry, q, now string) bool {
	got, err := query.Pick(l, "m", q, now)
	want := wantOfPick(l, q, now)
	if want == "" {
		if got != "" || err != api.ErrNone {
			t.Fatalf("Pick(%v, %s, %q): %q, %#v", l, q, now, got, err)
		}
		return false
	}
	if got != want || err != nil {
		t.Fatalf("Pick(%v, %s, %q): %q, %v, not %s", l, q, now, got, err, want)
	}
	versions := index.Versions(l, "m")
	nowIsThere := slices.Contains(versions, now)
	if !slices.Contains(versions, got) && !(q == "upgrade" && !nowIsThere && got == now) {
		t.Fatalf("Pick(%v, %s, %q): %q is not there", l, q, now, got)
	}
	if nowIsThere && (q == "upgrade" || q == "patch") && ver.Less(got, now) {
		t.Fatalf("Pick(%v, %s, %q): %q is less than now", l, q, now, got)
	}
	return true
}

func TestWhatIsPickedIsThereAndAsTheQuerySays(t *testing.T) {
	queries := strings.Fields("latest v0 v1 v2 v0.8 v0.9 v0.10 v0.1 v1.0 v1.1 v1.10")
	nows := append(strings.Fields("none v1 v0.9"), row...)
	for _, v := range row {
		queries = append(queries, v, "<"+v, "<="+v, ">"+v, ">="+v)
	}
	seen := map[string]map[bool]int{}
	try := func(l []api.Entry, q, now string) {
		kind := signOf(q)
		if seen[kind] == nil {
			seen[kind] = map[bool]int{}
		}
		seen[kind][checkPick(t, l, q, now)]++
	}
	eachIndex(func(l []api.Entry) {
		for _, q := range queries {
			try(l, q, "")
		}
		for _, now := range append(nows, "") {
			try(l, "upgrade", now)
			try(l, "patch", now)
		}
	})
	for _, kind := range strings.Fields("latest upgrade patch < <= > >=") {
		if seen[kind][true] == 0 || seen[kind][false] == 0 {
			t.Errorf("%s: seen: %v", kind, seen[kind])
		}
	}
	if seen[""][true] == 0 || seen[""][false] == 0 {
		t.Errorf("versions: seen: %v", seen[""])
	}
}

// Only upgrade and patch look at what is there now.
func TestNowDoesNotCountElsewhere(t *testing.T) {
	l := samples.Index(some)
	for _, q := range rightQueries {
		if q == "upgrade" || q == "patch" {
			continue
		}
		for _, path := range index.Paths(l) {
			want, wantErr := query.Pick(l, path, q, "")
			for _, now := range append(index.Versions(l, path), "x", "none", "v9.9.9", "v0.0.0") {
				if got, err := query.Pick(l, path, q, now); got != want || err != wantErr {
					t.Errorf("Pick of %s by %s from %q: %q, %v, not %q, %v", path, q, now, got, err, want, wantErr)
				}
			}
		}
	}
}

func TestArgumentsAreOnlyRead(t *testing.T) {
	for _, text := range []string{some, "a@v1.0.0", "", "a@v2.0.0"} {
		l := samples.SpareIndex(samples.Index(text))
		before := samples.Whole(l)
		for _, q := range append(slices.Clone(rightQueries), "v1.9.0", ">=v1.9.0", "<v1.9.1") {
			for _, now := range []string{"", "v1.0.0", "v1.9.0"} {
				want, wantErr := query.Pick(samples.Index(text), "a", q, now)
				for range 2 {
					if got, err := query.Pick(l, "a", q, now); got != want || !reflect.DeepEqual(err, wantErr) {
						t.Errorf("Pick by %s from %q: %q, %v, not %q, %v", q, now, got, err, want, wantErr)
					}
				}
			}
		}
		if !reflect.DeepEqual(samples.Whole(l), before) {
			t.Errorf("what was handed over has changed: %v", l)
		}
	}
}
