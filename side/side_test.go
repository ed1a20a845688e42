package side_test

import (
	"math"
	"reflect"
	"slices"
	"strings"
	"testing"

	"pewholder/api"
	"pewholder/file"
	"pewholder/get"
	"pewholder/mvs"
	"pewholder/place"
	"pewholder/samples"
	"pewholder/side"
)

// some has newer ones that require more and older ones, one that is taken back, and one of the file's own path.
const some = `a@v1.0.0 needs b@v1.0.0
	a@v1.1.0 needs b@v1.1.0
	a@v1.2.0 back
	b@v1.0.0
	b@v1.1.0 needs c@v1.0.0
	c@v1.0.0
	c@v1.1.0
	main@v1.0.0`

// wrongIndexes have the error that is told at the first task, whatever its own place is.
var wrongIndexes = []struct {
	index string
	err   error
}{
	{samples.Lines(101), api.ErrFull}, {"a@v1.0.0\nb@v1.0.0\nc@", api.ErrText}, {"a@v1.0.0\nb@v1000000.0.0", api.ErrBound}, {"a@v1.0.0\nb@v2.0.0", api.ErrMajor}, {"a@v1.0.0\nb@v1.0.0\nb@v1.0.0", api.ErrOrder},
	{"a@v1.0.0\nb@v1.0.0 needs b@v1.1.0", api.ErrShape}, {"a@v1.0.0\nb@v1.0.0 needs c@v1.0.0", api.ErrNone},
}

// wrongWorkers are too few, or too many.
var wrongWorkers = []int{0, -1, -16, 17, 18, 100, math.MinInt, math.MaxInt}

// rootLists are lists of roots, a comma between.
func rootLists(text string) [][]api.Mod {
	var lists [][]api.Mod
	for _, words := range strings.Split(text, ",") {
		lists = append(lists, samples.Mods(words))
	}
	return lists
}

// argLists are lists of arguments, a comma between.
func argLists(text string) [][]string {
	var lists [][]string
	for _, words := range strings.Split(text, ",") {
		lists = append(lists, strings.Fields(words))
	}
	return lists
}

// fileOf has these requirements and exclusions, as words.
func fileOf(reqs, exclude string) api.File {
	return api.File{Path: "main", Reqs: samples.Mods(reqs), Exclude: samples.Mods(exclude)}
}

// told is selections as words, a comma between.
func told(sels [][]api.Mod) string {
	var parts []string
	for _, sel := range sels {
		parts = append(parts, samples.Words(sel))
	}
	return strings.Join(parts, ",")
}

func TestBuilds(t *testing.T) {
	for _, c := range []struct{ roots, want string }{
		{"", ""}, {",", ","}, {",,", ",,"},
		{"c@v1.0.0", "c@v1.0.0"},
		{"a@v1.0.0", "a@v1.0.0 b@v1.0.0"},
		{"a@v1.1.0,a@v1.0.0", "a@v1.1.0 b@v1.1.0 c@v1.0.0,a@v1.0.0 b@v1.0.0"},
		{"a@v1.0.0,,a@v1.0.0,c@v1.1.0 a@v1.1.0", "a@v1.0.0 b@v1.0.0,,a@v1.0.0 b@v1.0.0,a@v1.1.0 b@v1.1.0 c@v1.1.0"},
		{"a@v1.2.0,main@v1.0.0 a@v1.0.0 a@v1.0.0 a@v1.2.0,b@v1.1.0", "a@v1.2.0,a@v1.2.0 b@v1.0.0 main@v1.0.0,b@v1.1.0 c@v1.0.0"},
	} {
		for workers := 1; workers <= api.Workers; workers++ {
			got, err := side.Builds(samples.Index(some), rootLists(c.roots), workers)
			if told(got) != c.want || len(got) != len(rootLists(c.roots)) || err != nil {
				t.Errorf("Builds of %s by %d: %s, %v", c.roots, workers, told(got), err)
			}
		}
	}
}

func TestGets(t *testing.T) {
	for _, c := range []struct {
		reqs, args string
		want       []string
	}{
		{"", "", []string{"module main\n"}},
		{"a@v1.0.0", ",a,", []string{"module main\nrequire a v1.0.0\n", "module main\nrequire a v1.1.0\n", "module main\nrequire a v1.0.0\n"}},
		{"a@v1.0.0", "a@none,b@none,a b@none,c@v1.1.0", []string{"module main\nrequire b v1.0.0\n", "module main\n", "pewholder: clash", "module main\nrequire a v1.0.0\nrequire c v1.1.0\n"}},
		{"a@v1.1.0", "b@v1.0.0 c@none,a@v1.2.0 b@none", []string{"module main\nrequire a v1.0.0\n", "module main\nrequire a v1.2.0\nrequire c v1.0.0\n"}},

		// Errors stand among the texts, and tell no place.
		{"", "x,a,a@v1@v1,a a x,a@v1000000,a a@none,elevenchars,A", []string{"pewholder: none", "module main\nrequire a v1.1.0\n", "pewholder: text", "pewholder: none", "pewholder: bound", "pewholder: clash", "pewholder: bound", "pewholder: text"}},
		{"", "a a a a a a a a a a a,a a a a a a a a a a", []string{"pewholder: full", "module main\nrequire a v1.1.0\n"}},

		// What is wrong with the file, or with its build, is so with each.
		{"x@v1.0.0", ",a,A", []string{"pewholder: none", "pewholder: none", "pewholder: text"}},
		{"b@v1.0.0 a@v1.0.0", ",A", []string{"pewholder: order", "pewholder: order"}}, {"main@v1.0.0", ",A", []string{"pewholder: shape", "pewholder: shape"}}, {"a@v2.0.0", "", []string{"pewholder: major"}}, {samples.Row(21), "", []string{"pewholder: full"}},

		// A file that requires itself has no text.
		{"a@v1.0.0", "main,main@none", []string{"", "module main\nrequire a v1.0.0\n"}},
	} {
		for workers := 1; workers <= api.Workers; workers++ {
			got, err := side.Gets(samples.Index(some), fileOf(c.reqs, ""), argLists(c.args), workers)
			if !slices.Equal(got, c.want) || err != nil {
				t.Errorf("Gets %s of %s by %d: %q, %v", c.args, c.reqs, workers, got, err)
			}
		}
	}
}

func TestWhatTheFileExcludes(t *testing.T) {
	got, err := side.Gets(samples.Index(some), fileOf("a@v1.0.0", "c@v1.0.0"), argLists(",a,b,a c"), 3)
	want := []string{"module main\nrequire a v1.0.0\nexclude c v1.0.0\n", "pewholder: clash", "pewholder: clash", "module main\nrequire a v1.1.0\nrequire c v1.1.0\nexclude c v1.0.0\n"}
	if !slices.Equal(got, want) || err != nil {
		t.Errorf("%q, %v", got, err)
	}
}

func TestTheFirstThatHasAnError(t *testing.T) {
	for _, c := range []struct {
		roots string
		at    int
	}{
		{"x@v1.0.0", 0}, {"a@v1.0.0 b@v1.0.0 c@v1.0.0 @", 0}, {",x@v1.0.0", 1}, {"a@v1.0.0,b@v1.0.0,c@v1.2.0,a@v1.0.0", 2}, {"a@v1.0.0,x@v1.0.0,x@v1.0.0,x@v1.0.0", 1}, {"a@v1.0.0,a@v1.0.0,a@v1.0.0 a@v1.0.0 a@v1.0.1,@,@", 2},
		{strings.Repeat("a@v1.1.0,", 99) + "x@v1.0.0", 99}, {strings.Repeat("a@v1.1.0,", 49) + strings.Repeat("@,", 50) + "@", 49},
	} {
		for workers := 1; workers <= api.Workers; workers++ {
			got, err := side.Builds(samples.Index(some), rootLists(c.roots), workers)
			if len(got) > 0 || !samples.SameFault(err, api.ErrNone, c.at) {
				t.Errorf("Builds of %s by %d: %v, %#v", c.roots, workers, got, err)
			}
		}
	}
}

func TestWrongIndexes(t *testing.T) {
	for _, c := range wrongIndexes {
		l := samples.Index(c.index)
		for _, workers := range []int{1, 2, 16} {
			for _, roots := range []string{"", "a@v1.0.0", ",", ",x@v1.0.0", "@,a@v1.0.0,a@v1.0.0"} {
				if got, err := side.Builds(l, rootLists(roots), workers); len(got) > 0 || !samples.SameFault(err, c.err, 0) {
					t.Errorf("Builds of %s in %.80s: %v, %#v", roots, c.index, got, err)
				}
			}
			for _, args := range []string{"", "a", "A,a,", "a@v1@v1,x"} {
				got, err := side.Gets(l, fileOf("x@v1.0.0", ""), argLists(args), workers)
				if want := slices.Repeat([]string{c.err.Error()}, len(argLists(args))); !slices.Equal(got, want) || err != nil {
					t.Errorf("Gets %s in %.80s: %q, %v", args, c.index, got, err)
				}
			}
		}
	}
}

// Where nothing is asked for nothing is wrong.
func TestNothingAtAll(t *testing.T) {
	for workers := 1; workers <= api.Workers; workers++ {
		for _, l := range [][]api.Entry{nil, {}, samples.Index(some), samples.Index("a@"), samples.Index(samples.Lines(101))} {
			for _, roots := range [][][]api.Mod{nil, {}} {
				if got, err := side.Builds(l, roots, workers); len(got) > 0 || err != nil {
					t.Errorf("Builds of nothing by %d: %v, %v", workers, got, err)
				}
			}
			for _, args := range [][][]string{nil, {}} {
				for _, f := range []api.File{{}, fileOf("", ""), fileOf("x@", "x@")} {
					if got, err := side.Gets(l, f, args, workers); len(got) > 0 || err != nil {
						t.Errorf("Gets of nothing by %d: %q, %v", workers, got, err)
					}
				}
			}
		}
		if got, err := side.Builds(nil, [][]api.Mod{nil, {}}, workers); len(got) != 2 || told(got) != "," || err != nil {
			t.Errorf("Builds in nothing by %d: %v, %v", workers, got, err)
		}
		if got, err := side.Gets(nil, api.File{Path: "main"}, [][]string{nil, {}, {"a"}}, workers); !slices.Equal(got, []string{"module main\n", "module main\n", "pewholder: none"}) || err != nil {
			t.Errorf("Gets in nothing by %d: %q, %v", workers, got, err)
		}
	}
}

// Too few or too many workers go ahead of too many tasks, and these of what is wrong with a task.
func TestBounds(t *testing.T) {
	for _, n := range []int{0, 1, 39, 40, 41, 99, 100, 101, 5000} {
		for _, workers := range append([]int{1, 2, 15, 16}, wrongWorkers...) {
			checkBuildsBound(t, n, workers, boundOf(n, 100, workers))
			checkGetsBound(t, n, workers, boundOf(n, 40, workers))
		}
	}
}

func checkBuildsBound(t *testing.T, n, workers int, want error) {
	got, err := side.Builds(samples.Index("c@v1.0.0"), slices.Repeat([][]api.Mod{samples.Mods("c@v1.0.0")}, n), workers)
	if err != want || want == nil && len(got) != n || want != nil && len(got) > 0 {
		t.Errorf("%d Builds by %d: %v, %#v", n, workers, got, err)
	}
	got, err = side.Builds(samples.Index("a@"), make([][]api.Mod, n), workers)
	at := -1
	if want == nil && n > 0 {
		want, at = api.ErrText, 0
	}
	if len(got) > 0 || !samples.SameFault(err, want, at) {
		t.Errorf("%d Builds in a wrong index by %d: %v, %#v", n, workers, got, err)
	}
}

func checkGetsBound(t *testing.T, n, workers int, want error) {
	for _, index := range []string{"c@v1.0.0", "a@"} {
		for _, arg := range []string{"c", "A"} {
			got, err := side.Gets(samples.Index(index), fileOf("", ""), slices.Repeat([][]string{{arg}}, n), workers)
			if err != want || want == nil && len(got) != n || want != nil && len(got) > 0 {
				t.Errorf("%d Gets %s in %s by %d: %q, %#v", n, arg, index, workers, got, err)
			}
		}
	}
}

func boundOf(n, most, workers int) error {
	switch {
	case slices.Contains(wrongWorkers, workers):
		return api.ErrShape
	case n > most:
		return api.ErrBound
	}
	return nil
}

// buildsOneByOne is what Builds is to answer, told as one.
func buildsOneByOne(l []api.Entry, roots [][]api.Mod) (string, error, int) {
	var sels [][]api.Mod
	for i, of := range roots {
		sel, err := mvs.Build(l, of)
		if err != nil {
			return "", place.Bare(err), i
		}
		sels = append(sels, sel)
	}
	return told(sels), nil, -1
}

// getsOneByOne is what Gets is to answer.
func getsOneByOne(l []api.Entry, f api.File, args [][]string) []string {
	var texts []string
	for _, of := range args {
		got, _, err := get.Get(l, f, of)
		if err != nil {
			texts = append(texts, err.Error())
		} else {
			texts = append(texts, file.Text(got))
		}
	}
	return texts
}

func TestByHoweverManyItIsTheSame(t *testing.T) {
	l := samples.Index(some)
	lists := rootLists(",a@v1.0.0,c@v1.1.0 a@v1.1.0,x@v1.0.0")
	asked := argLists(",a,c@v1.1.0 b@none,x")
	f := fileOf("a@v1.0.0", "")
	samples.EachList([]int{0, 1, 2, 3}, 4, func(which []int) {
		var roots [][]api.Mod
		var args [][]string
		for _, i := range which {
			roots, args = append(roots, lists[i]), append(args, asked[i])
		}
		want, wantErr, at := buildsOneByOne(l, roots)
		wantTexts := getsOneByOne(l, f, args)
		for workers := 1; workers <= 5; workers++ {
			if got, err := side.Builds(l, roots, workers); told(got) != want || !samples.SameFault(err, wantErr, at) {
				t.Fatalf("Builds of %v by %d: %s, %#v", roots, workers, told(got), err)
			}
			if got, err := side.Gets(l, f, args, workers); !slices.Equal(got, wantTexts) || err != nil {
				t.Fatalf("Gets %v by %d: %q, %v", args, workers, got, err)
			}
		}
	})
}

// As many tasks as there may be, of which some take much longer than others.
func TestTheMostByHoweverMany(t *testing.T) {
	l := samples.Index(samples.Lines(100))
	for i := range l[:99] {
		l[i].Reqs = samples.Mods(l[i+1].Mod.Path + "@v1.0.0")
	}
	var roots [][]api.Mod
	for i := range 100 {
		roots = append(roots, []api.Mod{l[i*37%100].Mod})
	}
	var args [][]string
	for i := range 40 {
		of := []string{l[60+i].Mod.Path + "@none", l[i*17%60].Mod.Path}
		args = append(args, of[:i%3])
	}
	f := fileOf("r080@v1.0.0", "")
	want, wantErr, at := buildsOneByOne(l, roots)
	wantTexts := getsOneByOne(l, f, args)
	for workers := 1; workers <= api.Workers; workers++ {
		if got, err := side.Builds(l, roots, workers); told(got) != want || !samples.SameFault(err, wantErr, at) {
			t.Fatalf("Builds by %d: %s, %#v", workers, told(got), err)
		}
		if got, err := side.Gets(l, f, args, workers); !slices.Equal(got, wantTexts) || err != nil {
			t.Fatalf("Gets by %d: %q, %v", workers, got, err)
		}
	}
}

// ask hands all to Builds, and tells what it answers; each list is written over once it is told, so that one that shared its memory would be told wrong.
func ask(l []api.Entry, roots [][]api.Mod, workers int) []any {
	got, err := side.Builds(l, roots, workers)
	all := []any{err, len(got)}
	for _, sel := range got {
		all = append(all, samples.Words(sel))
		for i := range sel[:cap(sel)] {
			sel[:cap(sel)][i] = api.Mod{Path: "written", Ver: "over"}
		}
	}
	clear(got[:cap(got)])
	return all
}

func TestAnswersAreNewMemory(t *testing.T) {
	l, roots := samples.Index(some), rootLists("a@v1.0.0,a@v1.0.0,c@v1.0.0,,c@v1.0.0 b@v1.0.0")
	want := []any{error(nil), 5, "a@v1.0.0 b@v1.0.0", "a@v1.0.0 b@v1.0.0", "c@v1.0.0", "", "b@v1.0.0 c@v1.0.0"}
	for _, workers := range []int{1, 2, 5, 16} {
		for range 2 {
			if got := ask(l, roots, workers); !reflect.DeepEqual(got, want) {
				t.Errorf("by %d: %v", workers, got)
			}
		}
	}
}

func TestArgumentsAreOnlyRead(t *testing.T) {
	for _, text := range []string{"", "a@v1.0.0,,c@v1.1.0 a@v1.1.0", "a@v1.0.0,x@v1.0.0"} {
		for _, words := range []string{"", "a,,c@v1.1.0 b@none", "A,x"} {
			l, roots, args := samples.SpareIndex(samples.Index(some)), rootLists(text), argLists(words)
			for i := range roots {
				roots[i] = samples.Spare(roots[i], samples.Mods("c@v1.0.0 x@")...)
			}
			for i := range args {
				args[i] = samples.Spare(args[i], "c", "@")
			}
			roots, args = samples.Spare(roots, samples.Mods("x@")), samples.Spare(args, []string{"A"})
			f := api.File{Path: "main", Reqs: samples.Spare(samples.Mods("a@v1.0.0"), samples.Mods("x@")...), Exclude: samples.Spare(samples.Mods("c@v1.9.0"), samples.Mods("a@v1.0.0")...)}
			before := whole(l, f, roots, args)
			want, wantTexts := ask(samples.Index(some), rootLists(text), 1), getsOneByOne(samples.Index(some), fileOf("a@v1.0.0", "c@v1.9.0"), argLists(words))
			for _, workers := range []int{1, 2, 16} {
				if got := ask(l, roots, workers); !reflect.DeepEqual(got, want) {
					t.Errorf("Builds of %s by %d: %v, not %v", text, workers, got, want)
				}
				if got, err := side.Gets(l, f, args, workers); !slices.Equal(got, wantTexts) || err != nil {
					t.Errorf("Gets %s by %d: %q, %v", words, workers, got, err)
				}
			}
			if !reflect.DeepEqual(whole(l, f, roots, args), before) {
				t.Errorf("of %s and %s: what was handed over has changed", text, words)
			}
		}
	}
}

// whole is a copy of all that these hold, also behind their lengths.
func whole(l []api.Entry, f api.File, roots [][]api.Mod, args [][]string) []any {
	all := []any{samples.Whole(l), f.Path, slices.Clone(f.Reqs[:cap(f.Reqs)]), slices.Clone(f.Exclude[:cap(f.Exclude)])}
	for _, of := range roots[:cap(roots)] {
		all = append(all, slices.Clone(of[:cap(of)]))
	}
	for _, of := range args[:cap(args)] {
		all = append(all, slices.Clone(of[:cap(of)]))
	}
	return all
}
