package up_test

import (
	"reflect"
	"slices"
	"strconv"
	"strings"
	"testing"

	"pewholder/api"
	"pewholder/graph"
	"pewholder/index"
	"pewholder/mod"
	"pewholder/mvs"
	"pewholder/samples"
	"pewholder/up"
	"pewholder/ver"
)

// some has newer ones that require more, less and newer ones; latest ones that are taken back, have a Pre, or are older than others; and a ring.
const some = `a@v1.9.0 needs b@v1.0.0
	a@v1.10.0-rc.2 needs e@v1.0.0
	a@v1.10.0 needs b@v1.0.0 c@v1.0.0
	a@v1.11.0 needs f@v1.0.0 back
	a@v1.12.0-rc
	a/v2@v2.0.0 needs a@v1.9.0
	a/v2@v2.1.0
	b@v1.0.0
	b@v1.1.0 needs d@v1.0.0
	c@v1.0.0
	d@v1.0.0
	d@v1.0.1-rc.9 needs e@v1.0.0
	d@v1.0.1-rc.10 needs e@v1.0.0
	e@v1.0.0 back
	e@v1.1.0 back
	f@v1.0.0-rc.9
	f@v1.0.0-rc.10
	f@v1.0.0 back
	r@v0.1.0 needs s@v0.1.0
	r@v0.2.0 needs s@v0.2.0
	s@v0.1.0 needs r@v0.1.0
	s@v0.2.0 needs c@v1.0.0 r@v0.2.0`

func TestOne(t *testing.T) {
	l := samples.Index(some)
	for _, c := range []struct{ roots, one, want string }{
		{"", "c@v1.0.0", "c@v1.0.0"}, {"", "a@v1.9.0", "a@v1.9.0 b@v1.0.0"}, {"c@v1.0.0", "c@v1.0.0", "c@v1.0.0"}, {"d@v1.0.0", "c@v1.0.0", "c@v1.0.0 d@v1.0.0"},

		// A newer one, an older one, and one that is there by another.
		{"a@v1.9.0", "a@v1.10.0", "a@v1.10.0 b@v1.0.0 c@v1.0.0"}, {"a@v1.10.0", "a@v1.9.0", "a@v1.10.0 b@v1.0.0 c@v1.0.0"},
		{"a@v1.9.0", "b@v1.0.0", "a@v1.9.0 b@v1.0.0"}, {"a@v1.9.0", "b@v1.1.0", "a@v1.9.0 b@v1.1.0 d@v1.0.0"},

		// What is not taken itself still has its requirements taken, of the root and of the one.
		{"a@v1.9.0", "a@v1.12.0-rc", "a@v1.12.0-rc b@v1.0.0"}, {"a@v1.12.0-rc", "a@v1.9.0", "a@v1.12.0-rc b@v1.0.0"},
		{"b@v1.0.0 b@v1.1.0", "d@v1.0.1-rc.10", "b@v1.1.0 d@v1.0.1-rc.10 e@v1.0.0"},

		// Not the latest is taken, but the one that is asked for, taken back or not.
		{"c@v1.0.0", "a@v1.11.0", "a@v1.11.0 c@v1.0.0 f@v1.0.0"}, {"", "a@v1.10.0-rc.2", "a@v1.10.0-rc.2 e@v1.0.0"}, {"e@v1.1.0", "e@v1.0.0", "e@v1.1.0"},
		{"a/v2@v2.1.0", "a/v2@v2.0.0", "a@v1.9.0 a/v2@v2.1.0 b@v1.0.0"}, {"a@v1.9.0", "a/v2@v2.1.0", "a@v1.9.0 a/v2@v2.1.0 b@v1.0.0"},
		{"r@v0.1.0", "s@v0.2.0", "c@v1.0.0 r@v0.2.0 s@v0.2.0"}, {"r@v0.2.0", "s@v0.1.0", "c@v1.0.0 r@v0.2.0 s@v0.2.0"},
	} {
		got, err := up.One(l, samples.Mods(c.roots), samples.Mod(c.one))
		if samples.Words(got) != c.want || err != nil {
			t.Errorf("One of %s and %s: %s, %v", c.roots, c.one, samples.Words(got), err)
		}
	}
}

func TestOneThatIsNoEntry(t *testing.T) {
	for _, roots := range []string{"", "a@v1.9.0", "a@v1.9.0 c@v1.0.0 a@v1.9.0"} {
		for _, one := range []string{"x@v1.0.0", "a@v1.9.1", "a@v1.10.0-rc", "a@v1.9", "a@", "@v1.9.0", "@", "A@v1.9.0", "a@v2.0.0", "a/v2@v1.9.0", "a/@v1.9.0"} {
			if got, err := up.One(samples.Index(some), samples.Mods(roots), samples.Mod(one)); len(got) > 0 || err != api.ErrNone {
				t.Errorf("One of %s and %s: %v, %#v", roots, one, got, err)
			}
		}
	}
}

func TestAll(t *testing.T) {
	l := samples.Index(some)
	for _, c := range []struct{ roots, want string }{
		{"", ""}, {"c@v1.0.0", "c@v1.0.0"}, {"c@v1.0.0 c@v1.0.0", "c@v1.0.0"}, {"a/v2@v2.1.0", "a/v2@v2.1.0"},

		// A newer one comes, with what it requires, in its newest; and so on, round by round.
		{"d@v1.0.0", "d@v1.0.0"}, {"b@v1.0.0", "b@v1.1.0 d@v1.0.0"}, {"b@v1.1.0", "b@v1.1.0 d@v1.0.0"},
		{"a@v1.9.0", "a@v1.10.0 b@v1.1.0 c@v1.0.0 d@v1.0.0"}, {"a@v1.10.0", "a@v1.10.0 b@v1.1.0 c@v1.0.0 d@v1.0.0"},
		{"a@v1.10.0-rc.2", "a@v1.10.0 b@v1.1.0 c@v1.0.0 d@v1.0.0 e@v1.1.0"},
		{"c@v1.0.0 b@v1.0.0", "b@v1.1.0 c@v1.0.0 d@v1.0.0"}, {"b@v1.1.0 b@v1.0.0", "b@v1.1.0 d@v1.0.0"},

		// What an older one required stays, also where the newer one does not require it any more.
		{"a/v2@v2.0.0", "a@v1.10.0 a/v2@v2.1.0 b@v1.1.0 c@v1.0.0 d@v1.0.0"},

		// One that is greater than the latest stays, and the latest still has its requirements taken.
		{"a@v1.12.0-rc", "a@v1.12.0-rc b@v1.1.0 c@v1.0.0 d@v1.0.0"}, {"a@v1.11.0", "a@v1.11.0 b@v1.1.0 c@v1.0.0 d@v1.0.0 f@v1.0.0"},
		{"d@v1.0.1-rc.9", "d@v1.0.1-rc.9 e@v1.1.0"}, {"d@v1.0.1-rc.10 d@v1.0.0", "d@v1.0.1-rc.10 e@v1.1.0"},

		// All of a path are taken back, or all that are not have a Pre.
		{"e@v1.0.0", "e@v1.1.0"}, {"f@v1.0.0-rc.9", "f@v1.0.0-rc.10"}, {"f@v1.0.0", "f@v1.0.0"},

		{"r@v0.1.0", "c@v1.0.0 r@v0.2.0 s@v0.2.0"}, {"s@v0.1.0", "c@v1.0.0 r@v0.2.0 s@v0.2.0"},
	} {
		if got, err := up.All(l, samples.Mods(c.roots)); samples.Words(got) != c.want || err != nil {
			t.Errorf("All of %s: %s, %v", c.roots, samples.Words(got), err)
		}
	}
}

// A latest one that is older than what is built has requirements that nothing else has.
func TestAllTakesTheLatestAlsoWhereItIsOlder(t *testing.T) {
	l := samples.Index("a@v1.0.0 needs b@v1.0.0\na@v1.1.0-rc\nb@v1.0.0\nb@v1.1.0 needs c@v1.0.0\nc@v1.0.0\nc@v1.0.1")
	got, err := up.All(l, samples.Mods("a@v1.1.0-rc"))
	if samples.Words(got) != "a@v1.1.0-rc b@v1.1.0 c@v1.0.1" || err != nil {
		t.Errorf("All: %s, %v", samples.Words(got), err)
	}
}

// Each round brings but the newer one of a path, which requires the older one of the next path.
func TestAllOfAsManyRoundsAsThereMayBe(t *testing.T) {
	pairs := api.MaxIndex / 2
	path := func(i int) string { return "p" + strconv.Itoa(10+i) }
	var lines, want []string
	for i := range pairs {
		newer := path(i) + "@v1.1.0"
		want = append(want, newer)
		if i+1 < pairs {
			newer += " needs " + path(i+1) + "@v1.0.0"
		}
		lines = append(lines, path(i)+"@v1.0.0", newer)
	}
	l := samples.Index(strings.Join(lines, "\n"))
	for _, from := range []int{0, 1, pairs - 2, pairs - 1} {
		got, err := up.All(l, samples.Mods(path(from)+"@v1.0.0"))
		if samples.Words(got) != strings.Join(want[from:], " ") || err != nil {
			t.Errorf("All from %d: %s, %v", from, samples.Words(got), err)
		}
	}
}

func TestNews(t *testing.T) {
	l := samples.Index(some)
	for _, c := range []struct{ sel, want string }{
		{"", ""}, {"c@v1.0.0", ""}, {"b@v1.0.0", "b@v1.1.0"}, {"b@v1.1.0", ""}, {"a@v1.9.0", "a@v1.10.0"}, {"a@v1.10.0-rc.2", "a@v1.10.0"}, {"a@v1.10.0", ""},
		{"a@v1.9.0 a/v2@v2.0.0 b@v1.0.0 c@v1.0.0 r@v0.1.0 s@v0.2.0", "a@v1.10.0 a/v2@v2.1.0 b@v1.1.0 r@v0.2.0"},

		// Greater than the latest: taken back, or with a Pre.
		{"a@v1.11.0", ""}, {"a@v1.12.0-rc b@v1.0.0", "b@v1.1.0"}, {"d@v1.0.0", ""}, {"d@v1.0.1-rc.9", ""}, {"f@v1.0.0", ""},

		// The latest is taken back, or has a Pre, as there is no other.
		{"e@v1.0.0", "e@v1.1.0"}, {"e@v1.1.0", ""}, {"f@v1.0.0-rc.9", "f@v1.0.0-rc.10"}, {"f@v1.0.0-rc.10", ""},

		// A selection is not asked whether it is closed, nor whether it is of the index.
		{"r@v0.1.0", "r@v0.2.0"}, {"x@v1.0.0", ""}, {"a@v0.0.1", "a@v1.10.0"}, {"a@v1.99.0 b@v1.0.5-x", "b@v1.1.0"}, {"a@v1.9.0 aa@v1.0.0 b@v1.0.0", "a@v1.10.0 b@v1.1.0"},

		// Nor whether its modules are right: nothing is greater than what is no version.
		{"@", ""}, {"A@v1.0.0", ""}, {"a@x b@v1.0.0 c@", "b@v1.1.0"}, {"a@v2.0.0", ""}, {"a/v2@v1.0.0", "a/v2@v2.1.0"}, {"@v1.0.0 a@v1.9.0", "a@v1.10.0"},
	} {
		if got, err := up.News(l, samples.Mods(c.sel)); samples.Words(got) != c.want || err != nil {
			t.Errorf("News of %s: %s, %v", c.sel, samples.Words(got), err)
		}
	}
}

func TestNewsOfNoSelection(t *testing.T) {
	for _, index := range []string{"", some} {
		for _, sel := range []string{
			"b@v1.0.0 a@v1.9.0", "a@v1.9.0 a@v1.9.0", "a@v1.9.0 a@v1.10.0", "a@v1.10.0 a@v1.9.0", "a@v1.9.0 c@v1.0.0 b@v1.0.0", "a@v1.9.0 b@v1.0.0 a@v1.9.0",
			"a/v2@v2.0.0 a@v1.9.0", "x@v1.0.0 x@v1.0.0", "y@v1.0.0 x@v1.0.0", "@ @", "a@v1.9.0 @", "a@x a@y", samples.Row(100) + " r099@v1.0.0",
		} {
			if got, err := up.News(samples.Index(index), samples.Mods(sel)); len(got) > 0 || err != api.ErrOrder {
				t.Errorf("News of %s: %v, %#v", sel, got, err)
			}
		}
	}
}

func TestNewsOfALongSelection(t *testing.T) {
	l := samples.Index("r000@v1.0.0\nr999@v1.0.0\nr999@v1.0.1")
	if got, err := up.News(l, samples.Mods(samples.Row(1000))); samples.Words(got) != "r999@v1.0.1" || err != nil {
		t.Errorf("News: %s, %v", samples.Words(got), err)
	}
}

func TestWrongIndexes(t *testing.T) {
	for _, c := range []struct {
		index string
		err   error
		at    int
	}{
		{samples.Lines(101), api.ErrFull, -1},
		{"a@v1.0.0\nb@", api.ErrText, 1},
		{"a@v1.0.0\nb@v1000000.0.0", api.ErrBound, 1},
		{"a@v2.0.0", api.ErrMajor, 0},
		{"a@v1.0.0\na@v1.0.0", api.ErrOrder, 1},
		{"a@v1.0.0\na@v1.0.0-rc", api.ErrOrder, 1},
		{"a@v1.0.0 needs a@v1.0.0", api.ErrShape, 0},
		{"a@v1.0.0\nb@v1.0.0 has x x", api.ErrOrder, 1},
		{"a@v1.0.0\nb@v1.0.0 needs c@v1.0.0", api.ErrNone, 1},
		{"a@v1.0.0 needs a/v2@v2.0.0", api.ErrNone, 0},
	} {
		l := samples.Index(c.index)
		// Whatever else is wrong: roots and a module that are no entries, and a list that is no selection.
		for _, words := range []string{"", "a@v1.0.0", "x@v1.0.0", "a@v1.0.0 a@v1.0.0", "x@v1.0.0 a@v1.0.0", "@"} {
			mods := samples.Mods(words)
			all, err := up.All(l, mods)
			if len(all) > 0 || !samples.SameFault(err, c.err, c.at) {
				t.Errorf("All of %s in %.80s: %v, %#v", words, c.index, all, err)
			}
			news, err := up.News(l, mods)
			if len(news) > 0 || !samples.SameFault(err, c.err, c.at) {
				t.Errorf("News of %s in %.80s: %v, %#v", words, c.index, news, err)
			}
			for _, m := range samples.Mods("a@v1.0.0 x@v1.0.0 @") {
				if one, err := up.One(l, mods, m); len(one) > 0 || !samples.SameFault(err, c.err, c.at) {
					t.Errorf("One of %s and %v in %.80s: %v, %#v", words, m, c.index, one, err)
				}
			}
		}
	}
}

func TestWrongRoots(t *testing.T) {
	for _, c := range []struct {
		index, roots string
		at           int
	}{
		{"", "a@v1.9.0", 0}, {some, "x@v1.0.0", 0}, {some, "@", 0}, {some, "a@v1.9.0 c@v1.0.1 @", 1}, {some, "a@v1.9.0 a@v1.9.0 A@v1.9.0", 2},
		{some, "a@v1.9.0 a@v2.0.0", 1}, {some, "b@v1.0.0 a@", 1}, {samples.Lines(100), samples.Row(101), 100},
	} {
		l, roots := samples.Index(c.index), samples.Mods(c.roots)
		if got, err := up.All(l, roots); len(got) > 0 || !samples.SameFault(err, api.ErrNone, c.at) {
			t.Errorf("All of %s: %v, %#v", c.roots, got, err)
		}
		// The roots' error, with its place, goes ahead of the bare one of a module that is no entry, also if it is the wrong root itself.
		for _, m := range append(samples.Mods("a@v1.9.0 r000@v1.0.0 x@v1.0.0 @"), roots[c.at]) {
			if got, err := up.One(l, roots, m); len(got) > 0 || !samples.SameFault(err, api.ErrNone, c.at) {
				t.Errorf("One of %s and %v: %v, %#v", c.roots, m, got, err)
			}
		}
	}
}

func TestNothingAtAll(t *testing.T) {
	for _, l := range [][]api.Entry{nil, {}} {
		for _, mods := range [][]api.Mod{nil, {}} {
			all, err := up.All(l, mods)
			news, err2 := up.News(l, mods)
			one, err3 := up.One(l, mods, api.Mod{})
			if len(all)+len(news)+len(one) > 0 || err != nil || err2 != nil || err3 != api.ErrNone {
				t.Error(all, err, news, err2, one, err3)
			}
		}
	}
}

// eachIndex hands over many indexes: the newer a and b may be taken back, or have a Pre; all but the older c may require others.
func eachIndex(take func([]api.Entry)) {
	ofA := []string{"", "b@v1.0.0", "b@v1.1.0 c@v1.0.0"}
	ofB := []string{"", "a@v1.9.0", "a@NEW c@v1.0.0"}
	ofC := []string{"", "a@v1.9.0", "b@v1.0.0"}
	for _, newA := range []string{"v1.10.0", "v1.10.0-rc"} {
		for _, backs := range []string{" ", " back", "back ", "back back"} {
			backA, backB, _ := strings.Cut(backs, " ")
			for n := range 3 * 3 * 3 * 3 * 3 {
				text := "a@v1.9.0 needs " + ofA[n%3] + "\na@NEW needs " + ofA[n/3%3] + " " + backA +
					"\nb@v1.0.0 needs " + ofB[n/9%3] + "\nb@v1.1.0 needs " + ofB[n/27%3] + " " + backB +
					"\nc@v1.0.0\nc@v1.0.1 needs " + ofC[n/81]
				take(samples.Index(strings.ReplaceAll(text, "NEW", newA)))
			}
		}
	}
}

// wantOfAll goes on with all that was ever taken as roots, and picks the greatest only at the end of each round.
func wantOfAll(l []api.Entry, roots []api.Mod) []api.Mod {
	roots = slices.Clone(roots)
	for {
		reach, _ := graph.Reach(l, roots)
		best := map[string]string{}
		for _, m := range reach {
			best[m.Path] = ver.Max(best[m.Path], m.Ver)
		}
		before := len(roots)
		for path, v := range best {
			for _, m := range []api.Mod{{Path: path, Ver: v}, {Path: path, Ver: index.Latest(l, path)}} {
				if !slices.Contains(roots, m) {
					roots = append(roots, m)
				}
			}
		}
		if len(roots) == before {
			return greatest(best)
		}
	}
}

// greatest is versions by paths as modules, paths rising.
func greatest(best map[string]string) []api.Mod {
	var out []api.Mod
	for path, v := range best {
		out = append(out, api.Mod{Path: path, Ver: v})
	}
	slices.SortFunc(out, func(a, b api.Mod) int { return strings.Compare(a.Path, b.Path) })
	return out
}

// wantOfNews asks each module by itself.
func wantOfNews(l []api.Entry, sel []api.Mod) []api.Mod {
	var out []api.Mod
	for _, m := range sel {
		if newest := (api.Mod{Path: m.Path, Ver: index.Latest(l, m.Path)}); mod.Ahead(m, newest) {
			out = append(out, newest)
		}
	}
	return out
}

// checkAll holds All against P72 and more; it answers whether there were News ahead of it.
func checkAll(t *testing.T, l []api.Entry, roots []api.Mod) bool {
	all, err := up.All(l, roots)
	if err != nil || !slices.Equal(all, wantOfAll(l, roots)) {
		t.Fatalf("All(%v, %v): %v, %v", l, roots, all, err)
	}
	if news, err := up.News(l, all); len(news) > 0 || err != nil {
		t.Fatalf("News(%v, %v): %v, %v, of what All answers", l, all, news, err)
	}
	if again, err := up.All(l, all); !slices.Equal(again, all) || err != nil {
		t.Fatalf("All(%v, %v): %v, %v, of what All answers", l, all, again, err)
	}
	built, _ := mvs.Build(l, roots)
	if is, err := mvs.Closed(l, roots, all); !is || err != nil || !mvs.Under(built, all) {
		t.Fatalf("All(%v, %v): %v, which has less than what is built", l, roots, all)
	}
	news, err := up.News(l, built)
	if err != nil || !slices.Equal(news, wantOfNews(l, built)) || !mvs.Under(news, all) {
		t.Fatalf("News(%v, %v): %v, %v", l, built, news, err)
	}
	return len(news) > 0
}

func checkOne(t *testing.T, l []api.Entry, roots []api.Mod) {
	for _, e := range l {
		one, err := up.One(l, roots, e.Mod)
		want, _ := mvs.Build(l, append([]api.Mod{e.Mod}, roots...))
		if err != nil || !slices.Equal(one, want) || !mvs.Under([]api.Mod{e.Mod}, one) {
			t.Fatalf("One(%v, %v, %v): %v, %v", l, roots, e.Mod, one, err)
		}
	}
}

func TestOfWhatAllAnswersThereAreNoNews(t *testing.T) {
	seen := map[bool]int{}
	eachIndex(func(l []api.Entry) {
		for _, roots := range [][]api.Mod{nil, {l[0].Mod}, {l[1].Mod}, {l[2].Mod}, {l[5].Mod}, {l[3].Mod, l[0].Mod}, {l[4].Mod, l[0].Mod}} {
			seen[checkAll(t, l, roots)]++
		}
	})
	if seen[true] == 0 || seen[false] == 0 {
		t.Errorf("seen: %v", seen)
	}
}

func TestOneHasTheModuleInNoLessAVersion(t *testing.T) {
	eachIndex(func(l []api.Entry) {
		for _, roots := range [][]api.Mod{nil, {l[1].Mod}, {l[3].Mod, l[0].Mod}} {
			checkOne(t, l, roots)
		}
	})
}

// ask hands an index and modules to each call, and writes into what they answer, once it is told.
func ask(l []api.Entry, mods []api.Mod, m api.Mod) []any {
	one, err := up.One(l, mods, m)
	all, err2 := up.All(l, mods)
	news, err3 := up.News(l, mods)
	told := []any{samples.Words(one), err, samples.Words(all), err2, samples.Words(news), err3}
	for _, answer := range [][]api.Mod{one, all, news} {
		whole := answer[:cap(answer)]
		for i := range whole {
			whole[i] = api.Mod{Path: "written", Ver: "over"}
		}
	}
	return told
}

func TestArgumentsAreOnlyRead(t *testing.T) {
	for _, words := range []string{"", "a@v1.9.0", "a@v1.9.0 b@v1.0.0 r@v0.1.0", "r@v0.1.0 a@v1.9.0", "c@v1.0.0", "x@v1.0.0 c@v1.0.0", "a@v1.12.0-rc b@x"} {
		l := samples.SpareIndex(samples.Index(some))
		mods := samples.Spare(samples.Mods(words), samples.Mods("s@v0.1.0 x@ a@v1.9.0 a/v2@v2.0.0")...)
		before, modsBefore := samples.Whole(l), slices.Clone(mods[:cap(mods)])
		for _, m := range samples.Mods("d@v1.0.1-rc.9 b@v1.1.0 x@v1.0.0") {
			want := ask(samples.Index(some), samples.Mods(words), m)
			for range 2 {
				if got := ask(l, mods, m); !reflect.DeepEqual(got, want) {
					t.Errorf("of %s and %v: %v, not %v", words, m, got, want)
				}
			}
		}
		if after := samples.Whole(l); !reflect.DeepEqual(after, before) || !slices.Equal(mods[:cap(mods)], modsBefore) {
			t.Errorf("it was %v, %v, and is %v, %v", before, modsBefore, after, mods[:cap(mods)])
		}
	}
}
