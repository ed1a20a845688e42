package index_test

import (
	"fmt"
	"reflect"
	"slices"
	"strings"
	"testing"

	"pewholder/api"
	"pewholder/index"
	"pewholder/mod"
	"pewholder/samples"
	"pewholder/ver"
)

// packRow is so many packages, rising, as words.
func packRow(n int) string {
	var words []string
	for i := range n {
		words = append(words, fmt.Sprintf("p%02d", i))
	}
	return strings.Join(words, " ")
}

// fullest has as many entries as may be, and the last ones as many of all else.
func fullest() string {
	reqs := samples.Row(api.MaxReqs)
	return samples.Lines(api.MaxIndex-2) + "\nx@v1.0.0 needs " + reqs + " has . " + packRow(api.MaxPacks-1) + "\ny@v1.0.0 needs " + reqs + " has " + packRow(api.MaxPacks)
}

// rightIndexes are right, as lines.
var rightIndexes = []string{
	"",
	"a@v1.0.0",
	"a@v1.0.0 has .",
	"a@v0.0.0-a.1 has . b b-c b.c b/c b/v2 b0 c/v10 c/v2 v1 back",
	"a@v1.0.0 has -x .",
	"a@v1.0.0 has -x . .x",
	"a@v1.0.0 has a",
	"a@v0.9.0\na@v0.10.0\na@v1.0.0-rc.2\na@v1.0.0-rc.10\na@v1.0.0\na@v1.9.0\na@v1.10.0\na-b@v0.0.1\na/b@v0.0.1\na/v10@v10.0.0\na/v2@v2.0.0\na/v2@v2.0.1\na0@v0.0.1",
	"a@v1.0.0 needs a/v2@v2.0.0\na/v2@v2.0.0 needs a@v1.0.0",
	"a@v1.0.0 needs b@v1.0.0 c@v1.0.0\nb@v1.0.0 needs a@v1.0.0 c@v1.0.0\nc@v1.0.0 needs a@v1.0.0 b@v1.0.0",
	"a@v1.0.0 needs b@v1.1.0\na@v1.1.0 needs b@v1.0.0\nb@v1.0.0 needs a@v1.1.0 back\nb@v1.1.0 back",
	"a@v1.0.0 needs b@v1.0.0 c@v1.0.0-rc.1\nb@v1.0.0\nc@v1.0.0-rc.1 back",
	samples.Lines(api.MaxIndex),
	fullest(),
}

func TestIndexesThatAreRight(t *testing.T) {
	for _, text := range rightIndexes {
		if err := index.Check(samples.Index(text)); err != nil {
			t.Errorf("Check of %s: %v", text, err)
		}
	}
	for _, l := range [][]api.Entry{nil, {}, {{Mod: samples.Mod("a@v1.0.0"), Reqs: []api.Mod{}, Packs: []string{}}}} {
		if err := index.Check(l); err != nil {
			t.Errorf("Check(%v): %v", l, err)
		}
	}
}

// wrongIndexes have the error that is told, and its place (-1: none).
var wrongIndexes = []struct {
	text string
	err  error
	at   int
}{
	{samples.Lines(101), api.ErrFull, -1}, {samples.Lines(1000), api.ErrFull, -1}, {"@\n" + samples.Lines(100), api.ErrFull, -1}, {samples.Lines(99) + "\n@", api.ErrText, 99},

	{"@", api.ErrText, 0}, {"a", api.ErrText, 0}, {"@v1.0.0", api.ErrText, 0}, {"a@v1.0.0\nb@v1", api.ErrText, 1}, {"A@v1.0.0", api.ErrText, 0},
	{"a@v1.0.0\nelevenchars@v1.0.0", api.ErrBound, 1}, {"a@v1000000.0.0", api.ErrBound, 0}, {"a@v2.0.0", api.ErrMajor, 0},
	{"a/v2@v1.0.0", api.ErrMajor, 0}, {"a@v1.0.0\nb/v1@v1.0.0", api.ErrMajor, 1},

	{"a@v1.0.0\na@v1.0.0", api.ErrOrder, 1}, {"b@v1.0.0\na@v1.0.0", api.ErrOrder, 1}, {"a@v1.10.0\na@v1.9.0", api.ErrOrder, 1},
	{"a@v1.0.0\na@v1.0.0-rc", api.ErrOrder, 1}, {"a/v2@v2.0.0\na/v10@v10.0.0", api.ErrOrder, 1}, {"a@v1.0.0\nb@v1.0.0\na@v1.1.0", api.ErrOrder, 2},
	{"a@v1.0.0 back\na@v1.0.0", api.ErrOrder, 1},

	{"x@v1.0.0 needs " + samples.Row(21), api.ErrFull, 0}, {samples.Lines(2) + "\nx@v1.0.0 needs @ " + samples.Row(20), api.ErrFull, 2},
	{"x@v1.0.0 needs x@v1.0.0 " + samples.Row(500), api.ErrFull, 0},

	{"a@v1.0.0 needs b", api.ErrText, 0}, {"a@v1.0.0\nb@v1.0.0 needs a@v1.0.0 c@v1", api.ErrText, 1}, {"a@v1.0.0 needs elevenchars@v1.0.0", api.ErrBound, 0},
	{"a@v1.0.0 needs b@v2.0.0", api.ErrMajor, 0}, {"a@v1.0.0 needs b@v1.0.0 c/v2@v1.0.0\nb@v1.0.0", api.ErrMajor, 0},
	{"a@v1.0.0 needs a@v1.0.0", api.ErrShape, 0}, {"a@v1.0.0\na@v1.1.0 needs a@v1.0.0", api.ErrShape, 1}, {"b@v1.0.0 needs a@v1.0.0 b@v0.1.0", api.ErrShape, 0},
	{"a/v2@v2.1.0 needs a/v2@v2.0.0", api.ErrShape, 0}, {"a@v1.0.0 needs b@v1.0.0 b@v1.0.0\nb@v1.0.0", api.ErrOrder, 0},
	{"a@v1.0.0 needs b@v1.0.0 b@v1.1.0\nb@v1.0.0\nb@v1.1.0", api.ErrOrder, 0}, {"a@v1.0.0 needs c@v1.0.0 b@v1.0.0\nb@v1.0.0\nc@v1.0.0", api.ErrOrder, 0},

	{"a@v1.0.0 has " + packRow(11), api.ErrFull, 0}, {"a@v1.0.0\nb@v1.0.0 has . " + packRow(10), api.ErrFull, 1}, {"a@v1.0.0 has A " + packRow(10), api.ErrFull, 0},
	{"a@v1.0.0 has A", api.ErrText, 0}, {"a@v1.0.0 has . ..", api.ErrText, 0}, {"a@v1.0.0 has ./x", api.ErrText, 0}, {"a@v1.0.0 has x/", api.ErrText, 0},
	{"a@v1.0.0 has ...", api.ErrText, 0}, {"a@v1.0.0 has elevenchars", api.ErrText, 0}, {"a@v1.0.0 has a/b/c/d/e/f", api.ErrText, 0},
	{"a@v1.0.0 has b/v1", api.ErrText, 0}, {"a@v1.0.0\na@v1.1.0 has a b C", api.ErrText, 1},
	{"a@v1.0.0 has b .", api.ErrOrder, 0}, {"a@v1.0.0 has . .", api.ErrOrder, 0}, {"a@v1.0.0\na@v1.1.0 has a b b", api.ErrOrder, 1},
	{"a@v1.0.0 has b/v2 b/v10", api.ErrOrder, 0}, {"a@v1.0.0 has b a", api.ErrOrder, 0},

	{"a@v1.0.0 needs b@v1.0.0", api.ErrNone, 0}, {"a@v1.0.0 needs b@v1.0.0\nb@v1.1.0", api.ErrNone, 0},
	{"a@v1.0.0\nb@v1.0.0 needs a@v1.0.0 c@v1.0.0\nc@v1.1.0 needs x@v1.0.0", api.ErrNone, 1}, {"a@v1.0.0\nb@v1.0.0 needs a@v1.0.1", api.ErrNone, 1},
	{samples.Lines(19) + "\nx@v1.0.0 needs " + samples.Row(20), api.ErrNone, 19}, {"a@v1.0.0 needs b@v1.0.0\nb/v2@v2.0.0", api.ErrNone, 0},

	// Of one entry: in this order.
	{"b@v1.0.0\na@v2.0.0", api.ErrMajor, 1}, {"b@v1.0.0\na@v1.0.0 needs " + samples.Row(21), api.ErrOrder, 1},
	{"a@v2.0.0 needs a@v1.0.0 has A", api.ErrMajor, 0}, {"x@v1.0.0 needs " + samples.Row(21) + " has A", api.ErrFull, 0},
	{"a@v1.0.0 needs a@v2.0.0", api.ErrMajor, 0}, {"a@v1.0.0 needs b@v1.0.0 a@v1.0.0\nb@v1.0.0", api.ErrShape, 0}, {"a@v1.0.0 needs b@v1.0.0 b@v2.0.0", api.ErrMajor, 0},
	{"a@v1.0.0 needs a@v1.0.0 has " + packRow(11), api.ErrShape, 0}, {"a@v1.0.0 needs c@v1.0.0 b@v1.0.0 has A", api.ErrOrder, 0},

	// Of its requirements: the first that is wrong, in whatever way.
	{"a@v1.0.0 needs a@v1.0.0 b@", api.ErrShape, 0}, {"a@v1.0.0 needs c@v1.0.0 b@v1.0.0 d@", api.ErrOrder, 0}, {"a@v1.0.0 needs c@v1.0.0 b@v1.0.0 a@v1.0.0", api.ErrOrder, 0},

	// Of its packages: all of them are held against one thing ahead of the next.
	{"a@v1.0.0 has c b A", api.ErrText, 0}, {"a@v1.0.0 has b b b/v1", api.ErrText, 0},

	// Of several entries: the first, in whatever way; but what is not there comes behind all else.
	{"a@v1.0.0 has b a\nb", api.ErrOrder, 0}, {"a@v1.0.0 needs a@v1.0.0\nb", api.ErrShape, 0}, {"a@v1.0.0 needs b@v1.0.0\nb@v1.1.0 has A", api.ErrText, 1},
	{"a@v1.0.0 needs b@v1.0.0 has b a", api.ErrOrder, 0}, {"a@v1.0.0 needs x@v1.0.0\nc@v1.0.0\nb@v1.0.0", api.ErrOrder, 2},
}

func TestIndexesThatAreWrong(t *testing.T) {
	for _, c := range wrongIndexes {
		if err := index.Check(samples.Index(c.text)); !samples.SameFault(err, c.err, c.at) {
			t.Errorf("Check of %s: %#v, not %v at %d", c.text, err, c.err, c.at)
		}
	}
}

// fault is one of all that is wrong, with its rank: what stands ahead in the document has the lesser one.
type fault struct {
	rank []int
	err  error
}

// faultsOf tells all that is wrong with an entry, but for its length.
func faultsOf(l []api.Entry, at int) []fault {
	var all []fault
	add := func(holds bool, err error, rank ...int) {
		if holds {
			all = append(all, fault{append([]int{0, at}, rank...), err})
		}
	}
	e := l[at]
	err := mod.Check(e.Mod)
	add(err != nil, err, 0)
	add(at > 0 && !mod.Ahead(l[max(at, 1)-1].Mod, e.Mod), api.ErrOrder, 1)
	for i, m := range e.Reqs {
		err := mod.Check(m)
		add(err != nil, err, 2, i, 0)
		add(m.Path == e.Mod.Path, api.ErrShape, 2, i, 1)
		add(i > 0 && e.Reqs[max(i, 1)-1].Path >= m.Path, api.ErrOrder, 2, i, 2)
		if !slices.ContainsFunc(l, func(x api.Entry) bool { return x.Mod == m }) {
			all = append(all, fault{[]int{1, at}, api.ErrNone})
		}
	}
	for i, s := range e.Packs {
		add(s != "." && mod.Path(s) != nil, api.ErrText, 3)
		add(i > 0 && e.Packs[max(i, 1)-1] >= s, api.ErrOrder, 4)
	}
	return all
}

func wantOfCheck(l []api.Entry) (error, int) {
	var all []fault
	for at := range l {
		all = append(all, faultsOf(l, at)...)
	}
	if len(all) == 0 {
		return nil, -1
	}
	first := slices.MinFunc(all, func(a, b fault) int { return slices.Compare(a.rank, b.rank) })
	return first.err, first.rank[1]
}

func TestCheckOfManyIndexes(t *testing.T) {
	of := samples.Index(`a@v1.0.0
		a@v1.1.0 has . x
		a@v1.2.0 needs b@v1.0.0
		b@v1.0.0 needs a@v1.0.0 has x
		b@v1.0.0 needs a@v1.0.0 c@v1.0.0
		b@v1.1.0 needs a@v1.1.0 a@v1.0.0
		c@v1.0.0 needs c@v1.0.0 has A
		c@v1.0.0 needs b@v1.0.0 a@v1.0.0 a@x
		c@v1.0.0 needs d@v1.0.0 has y x
		d@v1.0.0 needs a@v1.1.0 c@v1.0.0 has y x A
		d@v1.1.0 needs b@v2.0.0
		d@v2.0.0
		e@x needs b@v1.0.0`)
	seen := map[error]int{}
	samples.EachList(of, 4, func(l []api.Entry) {
		want, at := wantOfCheck(l)
		seen[want]++
		if err := index.Check(l); !samples.SameFault(err, want, at) {
			t.Fatalf("Check(%v): %#v, not %v at %d", l, err, want, at)
		}
	})
	for _, err := range []error{nil, api.ErrText, api.ErrMajor, api.ErrShape, api.ErrOrder, api.ErrNone} {
		if seen[err] == 0 {
			t.Errorf("no index with %v", err)
		}
	}
}

const some = `a@v1.0.0 has . x
	a@v1.1.0 needs b@v0.1.0 has .
	a@v1.2.0-rc.2 needs b@v0.1.0
	a@v1.2.0-rc.10
	a@v1.2.0 back
	a/v2@v2.0.0-a
	a/v2@v2.0.0-b
	a/v2@v2.0.0-c back
	a/v2@v2.0.0 back
	b@v0.1.0 needs a@v1.0.0
	c@v0.9.0
	c@v0.10.0
	c@v1.0.0-rc
	d@v0.1.0 back
	d@v0.2.0-a back
	e@v1.0.0-a back
	f@v1.0.0-a.9
	f@v1.0.0-a.10`

func TestFind(t *testing.T) {
	l := samples.Index(some)
	if err := index.Check(l); err != nil {
		t.Fatal(err)
	}
	for i, e := range l {
		if at := index.Find(l, e.Mod); at != i {
			t.Errorf("Find %v: %d, not %d", e.Mod, at, i)
		}
		if at := index.Find(slices.Delete(slices.Clone(l), i, i+1), e.Mod); at != -1 {
			t.Errorf("Find %v, which is gone: %d", e.Mod, at)
		}
	}
	for _, word := range []string{"", "@", "a", "a@", "@v1.0.0", "a@v1.3.0", "a@v1.0.0-rc", "a@v2.0.0", "a/v2@v1.0.0", "A@v1.0.0", "g@v1.0.0", "0@v1.0.0"} {
		if at := index.Find(l, samples.Mod(word)); at != -1 {
			t.Errorf("Find %s: %d", word, at)
		}
	}
	if at := index.Find(nil, samples.Mod("a@v1.0.0")); at != -1 {
		t.Errorf("Find in nothing: %d", at)
	}
}

func TestVersionsPathsAndLatest(t *testing.T) {
	l := samples.Index(some)
	for _, c := range []struct{ path, versions, latest string }{
		{"a", "v1.0.0 v1.1.0 v1.2.0-rc.2 v1.2.0-rc.10 v1.2.0", "v1.1.0"}, {"a/v2", "v2.0.0-a v2.0.0-b v2.0.0-c v2.0.0", "v2.0.0-b"}, {"b", "v0.1.0", "v0.1.0"},
		{"c", "v0.9.0 v0.10.0 v1.0.0-rc", "v0.10.0"}, {"d", "v0.1.0 v0.2.0-a", "v0.2.0-a"}, {"e", "v1.0.0-a", "v1.0.0-a"}, {"f", "v1.0.0-a.9 v1.0.0-a.10", "v1.0.0-a.10"},
		{"", "", ""}, {"g", "", ""}, {"a/", "", ""}, {"A", "", ""}, {"a/v3", "", ""}, {"v1.0.0", "", ""}, {"\xff", "", ""},
	} {
		if got := strings.Join(index.Versions(l, c.path), " "); got != c.versions {
			t.Errorf("Versions of %q: %s", c.path, got)
		}
		if got := index.Latest(l, c.path); got != c.latest {
			t.Errorf("Latest of %q: %q", c.path, got)
		}
		if versions, latest := index.Versions(nil, c.path), index.Latest(nil, c.path); len(versions) != 0 || latest != "" {
			t.Errorf("of nothing: %v, %q", versions, latest)
		}
	}
	if got := strings.Join(index.Paths(l), " "); got != "a a/v2 b c d e f" {
		t.Errorf("Paths: %s", got)
	}
	if got := index.Paths(nil); len(got) != 0 {
		t.Errorf("Paths of nothing: %v", got)
	}
}

func TestBest(t *testing.T) {
	l := samples.Index(some)
	for _, c := range []struct{ path, want string }{
		{"a", "v1.0.0 v1.1.0"}, {"a/v2", "v2.0.0-a v2.0.0-b"}, {"c", "v0.9.0 v0.10.0"}, {"d", "v0.1.0 v0.2.0-a"}, {"e", "v1.0.0-a"}, {"f", "v1.0.0-a.9 v1.0.0-a.10"}, {"g", ""}, {"", ""},
	} {
		if got := strings.Join(index.Best(l, c.path), " "); got != c.want {
			t.Errorf("Best of %q: %s", c.path, got)
		}
	}
	// It need be no index.
	for _, c := range []struct{ text, want string }{
		{"a@v1.10.0\na@v1.9.0\na@v1.10.0\na@junk", "v1.9.0 v1.10.0"}, {"a@junk\na@v1.0.0 back", "v1.0.0"}, {"", ""},
	} {
		if got := strings.Join(index.Best(samples.Index(c.text), "a"), " "); got != c.want {
			t.Errorf("Best of %s: %s", c.text, got)
		}
	}
}

func TestPathsRiseByTheirBytes(t *testing.T) {
	l := samples.Index("a@v1.0.0\na@v1.1.0\na-b@v0.0.1\na/b@v0.0.1\na/v10@v10.0.0\na/v2@v2.0.0\na/v2@v2.1.0\na0@v0.0.1")
	if got := strings.Join(index.Paths(l), " "); got != "a a-b a/b a/v10 a/v2 a0" {
		t.Errorf("Paths: %s", got)
	}
}

// wantOfLatest goes through a path's entries once: one that is better, or as good and greater, goes ahead.
func wantOfLatest(l []api.Entry, path string) string {
	best, bestRank := "", 0
	for _, e := range l {
		rank := 2
		if e.Back {
			rank = 1
		} else if !strings.Contains(e.Mod.Ver, "-") {
			rank = 3
		}
		if e.Mod.Path == path && (rank > bestRank || rank == bestRank && ver.Less(best, e.Mod.Ver)) {
			best, bestRank = e.Mod.Ver, rank
		}
	}
	return best
}

func TestCheckMods(t *testing.T) {
	l := samples.Index(some)
	for _, c := range []struct {
		mods string
		err  error
		at   int
	}{
		{"", nil, -1}, {"b@v0.1.0 a@v1.0.0 b@v0.1.0", nil, -1}, {"a@v1.0.0 b@v0.2.0 x@v1.0.0", api.ErrNone, 1}, {"@", api.ErrNone, 0},
	} {
		if err := index.CheckMods(l, samples.Mods(c.mods)); !samples.SameFault(err, c.err, c.at) {
			t.Errorf("CheckMods of %s: %#v, not %v at %d", c.mods, err, c.err, c.at)
		}
	}
}

func TestOfAllThatIsThereEachVersionIsFound(t *testing.T) {
	versions := strings.Fields("v0.9.0-a v0.9.0 v0.10.0 v1.0.0-a v1.0.0-b v1.0.0")
	samples.EachList([]int{0, 1, 2}, len(versions), func(kinds []int) {
		var l []api.Entry
		var there []string
		for i, kind := range kinds {
			if kind > 0 {
				l = append(l, api.Entry{Mod: api.Mod{Path: "m", Ver: versions[i]}, Back: kind == 2})
				there = append(there, versions[i])
			}
		}
		l = slices.Concat(samples.Index("a@v1.0.0\nl@v1.2.0 back"), l, samples.Index("m/v2@v2.0.0\nn@v0.1.0"))
		if err := index.Check(l); err != nil {
			t.Fatal(err)
		}
		if got := index.Versions(l, "m"); !slices.Equal(got, there) {
			t.Fatalf("Versions(%v): %v", l, got)
		}
		if got := index.Latest(l, "m"); got != wantOfLatest(l, "m") || (got == "") != (len(there) == 0) {
			t.Fatalf("Latest(%v): %q", l, got)
		}
		found := 0
		for _, path := range index.Paths(l) {
			for _, v := range index.Versions(l, path) {
				if at := index.Find(l, api.Mod{Path: path, Ver: v}); at != found {
					t.Fatalf("%s@%s of %v: %d, not %d", path, v, l, at, found)
				}
				found++
			}
		}
		if found != len(l) {
			t.Fatalf("found %d of %v", found, l)
		}
	})
}

// What is no index is still answered: rising, each once, and of what is no version nothing.
func TestWhatIsNoIndex(t *testing.T) {
	l := samples.Index("b@v1.0.0\na@v1.1.0\n@\na@junk\na@v1.0.0-a\na@v1.1.0\na@v1.0.0\nb@x\nc@y")
	for _, c := range []struct{ path, versions, latest string }{
		{"a", "v1.0.0-a v1.0.0 v1.1.0", "v1.1.0"}, {"b", "v1.0.0", "v1.0.0"}, {"c", "", ""}, {"", "", ""},
	} {
		if got := strings.Join(index.Versions(l, c.path), " "); got != c.versions {
			t.Errorf("Versions of %q: %s", c.path, got)
		}
		if got := index.Latest(l, c.path); got != c.latest {
			t.Errorf("Latest of %q: %q", c.path, got)
		}
	}
	if got := fmt.Sprintf("%q", index.Paths(l)); got != `["" "a" "b" "c"]` {
		t.Errorf("Paths: %s", got)
	}
	if at := index.Find(l, samples.Mod("a@v1.1.0")); at != 1 {
		t.Errorf("Find: %d", at)
	}
	if got := index.Latest(samples.Index("a@junk\na@v1.0.0-a"), "a"); got != "v1.0.0-a" {
		t.Errorf("Latest beside what is no version: %q", got)
	}
}

func TestAnIndexIsOnlyRead(t *testing.T) {
	for _, text := range []string{some, "b@v1.0.0 has z y\na@v1.0.0 needs z@v1.0.0 y@v1.0.0 has z y", ""} {
		l := samples.SpareIndex(samples.Index(text))
		before := samples.Whole(l)
		if err, want := index.Check(l), index.Check(samples.Index(text)); !reflect.DeepEqual(err, want) {
			t.Errorf("Check: %v, not %v", err, want)
		}
		for range 2 {
			paths, versions := index.Paths(l), index.Versions(l, "a")
			if !slices.Equal(paths, index.Paths(samples.Index(text))) || !slices.Equal(versions, index.Versions(samples.Index(text), "a")) {
				t.Errorf("Paths %v, Versions %v", paths, versions)
			}
			for _, answer := range [][]string{paths[:cap(paths)], versions[:cap(versions)]} {
				for i := range answer {
					answer[i] = "written over"
				}
			}
			index.Latest(l, "a")
			if at := index.Find(l, samples.Mod("a@v1.9.0")); at != -1 {
				t.Errorf("Find of what is behind the list: %d", at)
			}
		}
		if after := samples.Whole(l); !reflect.DeepEqual(after, before) {
			t.Errorf("it was %v, and is %v", before, after)
		}
	}
}
