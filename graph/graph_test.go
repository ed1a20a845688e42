package graph_test

import (
	"fmt"
	"reflect"
	"slices"
	"strings"
	"testing"

	"pewholder/api"
	"pewholder/graph"
	"pewholder/index"
	"pewholder/mod"
	"pewholder/samples"
)

// some has a chain, a ring, one that is reached by two ways, and versions whose order is not that of their texts.
const some = `a@v1.9.0 needs b@v1.0.0
	a@v1.10.0-rc needs b@v1.0.0 d@v1.0.0
	a@v1.10.0
	a/v2@v2.0.0 needs a@v1.10.0
	b@v1.0.0 needs c@v1.0.0 back
	b@v1.1.0 needs c@v1.0.0 d@v1.0.0
	c@v1.0.0 needs d@v1.0.0
	d@v1.0.0 has . x
	r@v0.1.0 needs s@v0.1.0
	s@v0.1.0 needs t@v0.1.0
	t@v0.1.0 needs d@v1.0.0 r@v0.1.0`

func TestReachAndItsEdges(t *testing.T) {
	l := samples.Index(some)
	for _, c := range []struct {
		roots, reach string
		edges        int
	}{
		{"", "", 0},
		{"d@v1.0.0", "d@v1.0.0", 0},
		{"a@v1.10.0", "a@v1.10.0", 0},
		{"c@v1.0.0", "c@v1.0.0 d@v1.0.0", 1},
		{"a@v1.9.0", "a@v1.9.0 b@v1.0.0 c@v1.0.0 d@v1.0.0", 3},
		{"a/v2@v2.0.0", "a@v1.10.0 a/v2@v2.0.0", 1},
		{"b@v1.1.0", "b@v1.1.0 c@v1.0.0 d@v1.0.0", 3},
		{"t@v0.1.0", "d@v1.0.0 r@v0.1.0 s@v0.1.0 t@v0.1.0", 4},
		{"s@v0.1.0 r@v0.1.0", "d@v1.0.0 r@v0.1.0 s@v0.1.0 t@v0.1.0", 4},
		{"d@v1.0.0 d@v1.0.0 d@v1.0.0", "d@v1.0.0", 0},
		{"c@v1.0.0 c@v1.0.0", "c@v1.0.0 d@v1.0.0", 1},
		{"a/v2@v2.0.0 a@v1.10.0 a@v1.10.0-rc a@v1.9.0", "a@v1.9.0 a@v1.10.0-rc a@v1.10.0 a/v2@v2.0.0 b@v1.0.0 c@v1.0.0 d@v1.0.0", 6},
		{"b@v1.1.0 a@v1.9.0", "a@v1.9.0 b@v1.0.0 b@v1.1.0 c@v1.0.0 d@v1.0.0", 5},
	} {
		roots := samples.Mods(c.roots)
		reach, err := graph.Reach(l, roots)
		if samples.Words(reach) != c.reach || err != nil {
			t.Errorf("Reach of %s: %s, %v", c.roots, samples.Words(reach), err)
		}
		if edges, err := graph.Edges(l, roots); edges != c.edges || err != nil {
			t.Errorf("Edges of %s: %d, %v", c.roots, edges, err)
		}
	}
}

func TestWay(t *testing.T) {
	l := samples.Index(some)
	for _, c := range []struct{ roots, to, way string }{
		{"d@v1.0.0", "d@v1.0.0", "d@v1.0.0"},
		{"a@v1.9.0", "d@v1.0.0", "a@v1.9.0 b@v1.0.0 c@v1.0.0 d@v1.0.0"},
		{"a@v1.10.0-rc", "d@v1.0.0", "a@v1.10.0-rc d@v1.0.0"},
		{"a@v1.10.0-rc", "c@v1.0.0", "a@v1.10.0-rc b@v1.0.0 c@v1.0.0"},
		{"a@v1.9.0 c@v1.0.0", "d@v1.0.0", "c@v1.0.0 d@v1.0.0"},
		{"a@v1.9.0 c@v1.0.0 d@v1.0.0", "d@v1.0.0", "d@v1.0.0"},
		{"a@v1.9.0 b@v1.0.0", "b@v1.0.0", "b@v1.0.0"},
		{"r@v0.1.0", "t@v0.1.0", "r@v0.1.0 s@v0.1.0 t@v0.1.0"},
		{"t@v0.1.0", "s@v0.1.0", "t@v0.1.0 r@v0.1.0 s@v0.1.0"},
		{"t@v0.1.0 t@v0.1.0", "t@v0.1.0", "t@v0.1.0"},
		{"a@v1.9.0 a/v2@v2.0.0 r@v0.1.0", "a@v1.10.0", "a/v2@v2.0.0 a@v1.10.0"},
	} {
		if way, err := graph.Way(l, samples.Mods(c.roots), samples.Mod(c.to)); samples.Words(way) != c.way || err != nil {
			t.Errorf("Way from %s to %s: %s, %v", c.roots, c.to, samples.Words(way), err)
		}
	}
}

func TestWayToWhatIsNotReached(t *testing.T) {
	l := samples.Index(some)
	for _, c := range []struct{ roots, to string }{
		{"", "a@v1.9.0"}, {"", ""}, {"d@v1.0.0", "c@v1.0.0"}, {"a@v1.9.0", "a@v1.10.0"}, {"a@v1.9.0", "b@v1.1.0"}, {"a@v1.9.0", "a/v2@v2.0.0"},
		{"a@v1.9.0", "x@v1.0.0"}, {"a@v1.9.0", "d@v1.0.1"}, {"a@v1.9.0", "d@"}, {"a@v1.9.0", "@v1.0.0"}, {"a@v1.9.0", "@"}, {"a@v1.9.0", "A@v2.0.0"},
	} {
		if way, err := graph.Way(l, samples.Mods(c.roots), samples.Mod(c.to)); len(way) > 0 || err != api.ErrNone {
			t.Errorf("Way from %s to %s: %s, %#v", c.roots, c.to, samples.Words(way), err)
		}
	}
}

// wrong inputs have the error that each call tells, and its place (-1: none).
var wrong = []struct {
	index, roots string
	err          error
	at           int
}{
	{samples.Lines(101), "r000@v1.0.0", api.ErrFull, -1},
	{samples.Lines(101), "x@v1.0.0", api.ErrFull, -1},
	{"a@v1.0.0\nb@", "a@v1.0.0", api.ErrText, 1},
	{"a@v2.0.0", "", api.ErrMajor, 0},
	{"a@v1.0.0\na@v1.0.0", "a@v1.0.0", api.ErrOrder, 1},
	{"a@v1.0.0 needs a@v1.0.0", "a@v1.0.0", api.ErrShape, 0},
	{"a@v1.0.0\nb@v1.0.0 needs c@v1.0.0", "a@v1.0.0", api.ErrNone, 1},
	{"a@v1.0.0\nb@v1.0.0 has x x", "x@v1.0.0", api.ErrOrder, 1},
	{"a@v1.0.0 needs b@v1.0.0", "a@v1.0.0 a@v1.0.0 x@v1.0.0", api.ErrNone, 0},

	{"", "a@v1.0.0", api.ErrNone, 0},
	{some, "x@v1.0.0", api.ErrNone, 0},
	{some, "d@v1.0.0 d@v1.0.1 @", api.ErrNone, 1},
	{some, "a@v1.9.0 b@v1.1.0 a@v1.9.0 a@", api.ErrNone, 3},
	{some, "@", api.ErrNone, 0},
	{some, "d@v1.0.0 A@v2.0.0", api.ErrNone, 1},
	{some, "r@v0.1.0 a/v2@v1.10.0", api.ErrNone, 1},
	{samples.Lines(100), samples.Row(101), api.ErrNone, 100},
}

func TestWrongInputs(t *testing.T) {
	for _, c := range wrong {
		l, roots := samples.Index(c.index), samples.Mods(c.roots)
		reach, err := graph.Reach(l, roots)
		if len(reach) > 0 || !samples.SameFault(err, c.err, c.at) {
			t.Errorf("Reach of %s in %.80s: %v, %#v", c.roots, c.index, reach, err)
		}
		edges, err := graph.Edges(l, roots)
		if edges != 0 || !samples.SameFault(err, c.err, c.at) {
			t.Errorf("Edges of %s in %.80s: %d, %#v", c.roots, c.index, edges, err)
		}
		for _, to := range samples.Mods("a@v1.0.0 d@v1.0.0 r000@v1.0.0 x@v1.0.0 @") {
			if way, err := graph.Way(l, roots, to); len(way) > 0 || !samples.SameFault(err, c.err, c.at) {
				t.Errorf("Way from %s to %v in %.80s: %v, %#v", c.roots, to, c.index, way, err)
			}
		}
	}
}

func TestNothingAtAll(t *testing.T) {
	reach, err := graph.Reach(nil, nil)
	edges, err2 := graph.Edges([]api.Entry{}, []api.Mod{})
	way, err3 := graph.Way(nil, nil, api.Mod{})
	if len(reach) > 0 || err != nil || edges != 0 || err2 != nil || len(way) > 0 || err3 != api.ErrNone {
		t.Error(reach, err, edges, err2, way, err3)
	}
}

// As long a chain as there may be, closed to a ring: each way goes round as far as it must.
func TestALongRing(t *testing.T) {
	row := strings.Fields(samples.Row(api.MaxIndex))
	var lines []string
	for i, m := range row {
		lines = append(lines, m+" needs "+row[(i+1)%len(row)])
	}
	l := samples.Index(strings.Join(lines, "\n"))
	for _, from := range []int{0, 1, 50, 99} {
		roots := samples.Mods(row[from])
		if reach, err := graph.Reach(l, roots); samples.Words(reach) != strings.Join(row, " ") || err != nil {
			t.Errorf("Reach from %d: %s, %v", from, samples.Words(reach), err)
		}
		if edges, err := graph.Edges(l, roots); edges != len(row) || err != nil {
			t.Errorf("Edges from %d: %d, %v", from, edges, err)
		}
		for n := range row {
			want := slices.Concat(row, row)[from : from+n+1]
			if way, err := graph.Way(l, roots, samples.Mod(want[n])); samples.Words(way) != strings.Join(want, " ") || err != nil {
				t.Errorf("Way from %d to the %dth behind it: %s, %v", from, n, samples.Words(way), err)
			}
		}
	}
}

// As many requirements as there may be.
func TestTheFullestIndex(t *testing.T) {
	row := strings.Fields(samples.Row(api.MaxIndex))
	var l []api.Entry
	for i, m := range row {
		others := slices.Delete(slices.Clone(row), i, i+1)
		l = append(l, api.Entry{Mod: samples.Mod(m), Reqs: samples.Mods(strings.Join(others[:api.MaxReqs], " "))})
	}
	// All require the first ones alone, so that one of the others is reached only as a root.
	roots := samples.Mods(strings.Repeat(row[99]+" ", 500) + row[98])
	if reach, err := graph.Reach(l, roots); samples.Words(reach) != strings.Join(slices.Concat(row[:21], row[98:]), " ") || err != nil {
		t.Errorf("Reach: %s, %v", samples.Words(reach), err)
	}
	if edges, err := graph.Edges(l, roots); edges != 23*api.MaxReqs || err != nil {
		t.Errorf("Edges: %d, %v", edges, err)
	}
	if edges, err := graph.Edges(l, samples.Mods(strings.Join(row, " "))); edges != api.MaxIndex*api.MaxReqs || err != nil {
		t.Errorf("Edges of all: %d, %v", edges, err)
	}
}

// eachIndex hands over all indexes of two versions of a, one of b and one of c, where each may require the others in any way.
func eachIndex(take func([]api.Entry)) {
	ofA := strings.Split(",b@v1.0.0,c@v1.0.0,b@v1.0.0 c@v1.0.0", ",")
	ofB := strings.Split(",a@v1.9.0,a@v1.10.0,c@v1.0.0,a@v1.9.0 c@v1.0.0,a@v1.10.0 c@v1.0.0", ",")
	ofC := strings.Split(",a@v1.9.0,a@v1.10.0,b@v1.0.0,a@v1.9.0 b@v1.0.0,a@v1.10.0 b@v1.0.0", ",")
	for _, older := range ofA {
		for _, newer := range ofA {
			for _, b := range ofB {
				for _, c := range ofC {
					take(samples.Index("a@v1.9.0 needs " + older + "\na@v1.10.0 needs " + newer + "\nb@v1.0.0 needs " + b + "\nc@v1.0.0 needs " + c))
				}
			}
		}
	}
}

// steps tells how far off each module is (a root: 0), by lowering the numbers until none can be lowered.
func steps(l []api.Entry, roots []api.Mod) map[api.Mod]int {
	off := map[api.Mod]int{}
	for _, m := range roots {
		off[m] = 0
	}
	for changed := true; changed; {
		changed = false
		for _, e := range l {
			n, here := off[e.Mod]
			for _, m := range e.Reqs {
				if old, ok := off[m]; here && (!ok || old > n+1) {
					off[m], changed = n+1, true
				}
			}
		}
	}
	return off
}

// checkWay tells what is wrong with a way.
func checkWay(l []api.Entry, roots []api.Mod, m api.Mod, steps int, way []api.Mod) error {
	switch {
	case len(way) != steps+1:
		return fmt.Errorf("%d modules, not %d", len(way), steps+1)
	case !slices.Contains(roots, way[0]):
		return fmt.Errorf("%v is no root", way[0])
	case way[steps] != m:
		return fmt.Errorf("it ends at %v", way[steps])
	}
	for i := range steps {
		if !slices.Contains(l[index.Find(l, way[i])].Reqs, way[i+1]) {
			return fmt.Errorf("%v does not require %v", way[i], way[i+1])
		}
		if slices.Contains(way[:i+1], way[i+1]) {
			return fmt.Errorf("%v is there twice", way[i+1])
		}
	}
	return nil
}

func TestManyGraphs(t *testing.T) {
	targets := samples.Mods("a@v1.9.0 a@v1.10.0 b@v1.0.0 c@v1.0.0 d@v1.0.0")
	eachIndex(func(l []api.Entry) {
		samples.EachList(targets[:4], 2, func(roots []api.Mod) {
			off := steps(l, roots)
			var want []api.Mod
			edges := 0
			for _, e := range l {
				if _, ok := off[e.Mod]; ok {
					want = append(want, e.Mod)
					edges += len(e.Reqs)
				}
			}
			if got, err := graph.Reach(l, roots); !slices.Equal(got, want) || err != nil {
				t.Fatalf("Reach(%v, %v): %v, %v", l, roots, got, err)
			}
			if got, err := graph.Edges(l, roots); got != edges || err != nil {
				t.Fatalf("Edges(%v, %v): %d, %v", l, roots, got, err)
			}
			for _, m := range targets {
				way, err := graph.Way(l, roots, m)
				n, ok := off[m]
				if !ok && (len(way) > 0 || err != api.ErrNone) {
					t.Fatalf("Way(%v, %v, %v): %v, %v", l, roots, m, way, err)
				}
				if !ok {
					continue
				}
				if wrong := checkWay(l, roots, m, n, way); wrong != nil || err != nil {
					t.Fatalf("Way(%v, %v, %v): %v, %v: %v", l, roots, m, way, err, wrong)
				}
			}
		})
	})
}

func TestWhatIsReachedFromWhatIsReachedIsReached(t *testing.T) {
	eachIndex(func(l []api.Entry) {
		for _, e := range l {
			reach, err := graph.Reach(l, []api.Mod{e.Mod})
			if err != nil || !rising(reach) {
				t.Fatalf("Reach(%v, %v): %v, %v", l, e.Mod, reach, err)
			}
			if again, err := graph.Reach(l, reach); !slices.Equal(again, reach) || err != nil {
				t.Fatalf("Reach(%v, %v): %v, %v", l, reach, again, err)
			}
			for _, m := range reach {
				for _, r := range l[index.Find(l, m)].Reqs {
					if !slices.Contains(reach, r) {
						t.Fatalf("Reach(%v, %v) has %v, not %v", l, e.Mod, m, r)
					}
				}
			}
		}
	})
}

func rising(l []api.Mod) bool {
	for i := 1; i < len(l); i++ {
		if !mod.Ahead(l[i-1], l[i]) {
			return false
		}
	}
	return true
}

// FREE is not at random: with several ways as short, each call takes the same one.
func TestTheSameWayEachTime(t *testing.T) {
	l := samples.Index("a@v1.0.0 needs b@v1.0.0 c@v1.0.0 d@v1.0.0\nb@v1.0.0 needs e@v1.0.0\nc@v1.0.0 needs e@v1.0.0\nd@v1.0.0 needs e@v1.0.0\ne@v1.0.0")
	first, err := graph.Way(l, samples.Mods("a@v1.0.0"), samples.Mod("e@v1.0.0"))
	if len(first) != 3 || err != nil {
		t.Fatal(first, err)
	}
	for range 100 {
		if way, _ := graph.Way(l, samples.Mods("a@v1.0.0"), samples.Mod("e@v1.0.0")); !slices.Equal(way, first) {
			t.Fatalf("%v, and then %v", first, way)
		}
	}
}

func TestArgumentsAreOnlyRead(t *testing.T) {
	for _, words := range []string{"", "t@v0.1.0 a@v1.9.0", "d@v1.0.0", "x@v1.0.0 d@v1.0.0"} {
		l := samples.SpareIndex(samples.Index(some))
		roots := samples.Spare(samples.Mods(words), samples.Mods("r@v0.1.0 x@")...)
		before, rootsBefore := samples.Whole(l), slices.Clone(roots[:cap(roots)])
		for range 2 {
			reach, err := graph.Reach(l, roots)
			if want, wantErr := graph.Reach(samples.Index(some), samples.Mods(words)); !slices.Equal(reach, want) || !reflect.DeepEqual(err, wantErr) {
				t.Errorf("Reach of %s: %v, %v", words, reach, err)
			}
			way, _ := graph.Way(l, roots, samples.Mod("d@v1.0.0"))
			for _, answer := range [][]api.Mod{reach[:cap(reach)], way[:cap(way)]} {
				for i := range answer {
					answer[i] = api.Mod{Path: "written", Ver: "over"}
				}
			}
			graph.Edges(l, roots)
		}
		if after := samples.Whole(l); !reflect.DeepEqual(after, before) || !slices.Equal(roots[:cap(roots)], rootsBefore) {
			t.Errorf("it was %v, %v, and is %v, %v", before, rootsBefore, after, roots[:cap(roots)])
		}
	}
}
