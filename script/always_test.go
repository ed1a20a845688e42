package script_test

import (
	"errors"
	"fmt"
	"slices"
	"strconv"
	"strings"
	"sync"
	"testing"

	"pewholder/api"
	"pewholder/file"
	"pewholder/get"
	"pewholder/graph"
	"pewholder/mvs"
	"pewholder/pkg"
	"pewholder/samples"
	"pewholder/script"
	"pewholder/sums"
	"pewholder/up"
)

// lineOf is the line that makes an entry.
func lineOf(e api.Entry) string {
	reqs, packs := strings.ReplaceAll(samples.Words(e.Reqs), " ", ","), strings.Join(e.Packs, ",")
	if reqs == "" {
		reqs = "-"
	}
	if packs == "" {
		packs = "-"
	}
	return "entry " + samples.Words([]api.Mod{e.Mod}) + " " + reqs + " " + packs
}

// linesOf makes an index in which each requires only what stands behind it, and so must be told after it.
func linesOf(l []api.Entry) []string {
	var lines []string
	for _, e := range slices.Backward(l) {
		lines = append(lines, lineOf(e))
		if e.Back {
			lines = append(lines, "back "+samples.Words([]api.Mod{e.Mod}))
		}
	}
	return lines
}

// list is what is told of a list, or of its error.
func list(words []string, err error) string {
	if err != nil {
		return err.Error()
	}
	if len(words) == 0 {
		return "nothing"
	}
	return strings.Join(words, " ")
}

func mods(l []api.Mod, err error) string {
	return list(strings.Fields(samples.Words(l)), err)
}

// asked is lines that ask, and what the calls answer to them.
func asked(l []api.Entry, f api.File) []exchange {
	built, err := mvs.Build(l, f.Reqs)
	all := []exchange{{"list", mods(built, err)}, {"up", mods(up.All(l, f.Reqs))}, {"show", strings.ReplaceAll(file.Text(f), "\n", ";")}}
	for _, e := range l {
		way, err := graph.Way(l, f.Reqs, e.Mod)
		all = append(all, exchange{"why " + samples.Words([]api.Mod{e.Mod}), list([]string{strconv.Itoa(len(way))}, err)})
	}
	if err != nil {
		return all
	}
	packs, err := pkg.All(l, built)
	all = append(all, exchange{"news", mods(up.News(l, built))}, exchange{"packs", list(packs, err)})
	for _, p := range []string{"a", "a/b", "b", "b/c", "c", "c/v1"} {
		m, err := pkg.Of(l, built, p)
		all = append(all, exchange{"which " + p, mods([]api.Mod{m}, err)})
	}
	lines, err := sums.All(l, built)
	var words []string
	for _, line := range lines {
		words = append(words, fmt.Sprint(line.Sum))
	}
	return append(all, exchange{"sums", list(words, err)})
}

// got is lines that get, one behind the other, and what the calls answer to them.
func got(l []api.Entry, f api.File, args []string) []exchange {
	var all []exchange
	for _, arg := range args {
		next, built, err := get.Get(l, f, strings.Fields(arg))
		if err == nil {
			f = next
		}
		all = append(all, exchange{"get " + arg, mods(built, err)}, exchange{"show", strings.ReplaceAll(file.Text(f), "\n", ";")})
	}
	return all
}

// eachIndex hands over many indexes of three versions of a, two of b and two of c, of which some are taken back.
func eachIndex(take func([]api.Entry)) {
	ofA := []string{"", "b@v1.0.0", "b@v1.1.0 c@v1.0.0", "c@v1.1.0-rc has . b"}
	ofB := []string{"", "c@v1.0.0 has .", "c@v1.1.0-rc has . c", "has c back"}
	for n := range 4 * 4 * 4 * 4 {
		take(samples.Index("a@v1.9.0 needs " + ofA[n%4] + "\na@v1.10.0-rc\na@v1.10.0 needs " + ofA[n/4%4] +
			"\nb@v1.0.0 needs " + ofB[n/16%4] + "\nb@v1.1.0 needs " + ofB[n/64] + "\nc@v1.0.0 has .\nc@v1.1.0-rc has . x"))
	}
}

func TestAsTheCallsAnswer(t *testing.T) {
	files := []api.File{
		{Path: "main"}, {Path: "m/v2", Reqs: samples.Mods("a@v1.9.0")}, {Path: "main", Reqs: samples.Mods("a@v1.9.0 b@v1.1.0"), Exclude: samples.Mods("a@v1.10.0 c@v1.1.0-rc")},
		{Path: "c", Reqs: samples.Mods("a@v1.10.0 b@v1.0.0")}, {Path: "main", Reqs: samples.Mods("a@v1.11.0")}, {Path: "x", Reqs: samples.Mods("b@v1.0.0 c@v1.0.0")},
	}
	args := []string{"a", "...@latest", "b@v1.0.0", "c@none", "a@v1.9.0 b c", "...@none"}
	eachIndex(func(l []api.Entry) {
		ahead := linesOf(l)
		for _, f := range files {
			text := strings.ReplaceAll(file.Text(f), "\n", ";")
			check(t, behind(ahead, "main "+text), asked(l, f)...)
			check(t, behind(ahead, "main "+text), got(l, f, args)...)
		}
	})
}

// longer has lines of all kinds, right and wrong, each on what the ones ahead have left.
var longer = slices.Concat(some, strings.Split("get a@v1.0.0|show|news|up|why b@v1.0.0|entry d@v1.0.0 a@v1.1.0 .|get d|packs|sums|get a@none|list|main module m;require b v1.0.0;exclude c v1.0.0;|get b|get a/b|which a/b/c|back b@v1.1.0|get b|list|show", "|"))

// What is wrong changes nothing, wherever it stands among others.
func TestWrongLinesChangeNothing(t *testing.T) {
	wrong := []string{"", "list 1", "entry c@v1.0.0 - -", "entry c@v1.0.0 - A", "entry z@v1.0.0 z@v1.1.0 -", "entry z@v1.0.0 q@v1.0.0 -", "entry a@v1.9.0 - .,.", "back z@v1.0.0", "back a@v2.0.0", "main module z", "main module z;require a v1.0.0;exclude a v1.0.0;", "main ", "get z", "get a@v1.9.0", "get a@v1.0.0 a@v1.1.0", "get ...@v1@", "why z@v1.0.0", "which z"}
	want := answers(t, longer)
	for _, line := range wrong {
		for at := 1; at <= len(longer); at++ {
			all := answers(t, slices.Insert(slices.Clone(longer), at, line))
			if !strings.HasPrefix(all[at], "pewholder: ") {
				t.Errorf("%q at %d: %q", line, at, all[at])
			}
			if !slices.Equal(slices.Delete(all, at, at+1), want) {
				t.Errorf("%q at %d: the others are answered otherwise: %q", line, at, all)
			}
		}
	}
}

// A line is answered by the ones ahead alone: the same ones make the same answer, whatever comes behind, and whatever was run before.
func TestTheSameLinesMakeTheSameAnswers(t *testing.T) {
	lines := strings.Split("entry b@v1.0.0 - .|entry a@v1.0.0 b@v1.0.0 .|entry a@v1.1.0 - x|back a@v1.1.0|get a|get ...@none|main module b;require a v1.0.0;|list|show|sums|", "|")
	seen := map[string]string{}
	check := func(l []string) {
		all := answers(t, l)
		if again := answers(t, l); !slices.Equal(again, all) {
			t.Fatalf("%q: %q, then %q", l, all, again)
		}
		seen[fmt.Sprintf("%q", l)] = fmt.Sprintf("%q", all)
		ahead := max(len(l), 1) - 1
		if want := seen[fmt.Sprintf("%q", l[:ahead])]; fmt.Sprintf("%q", all[:ahead]) != want {
			t.Fatalf("%q: %q, and without the last one %s", l, all, want)
		}
	}
	samples.EachList(lines, 4, check)
	for n := range longer {
		check(longer[:n+1])
	}
}

func TestScriptsSideBySide(t *testing.T) {
	want := answers(t, longer)
	var all sync.WaitGroup
	for range 8 {
		all.Go(func() {
			for range 20 {
				if got, err := script.Run(longer); !slices.Equal(got, want) || err != nil {
					t.Errorf("%q, %v", got, err)
				}
			}
		})
	}
	all.Wait()
}

func TestLinesAreOnlyReadAndAnswersAreNew(t *testing.T) {
	want := answers(t, longer)
	lines := samples.Spare(longer, "list", "back a@v1.0.0")
	before := slices.Clone(lines[:cap(lines)])
	for range 3 {
		got := answers(t, lines)
		if !slices.Equal(got, want) {
			t.Errorf("%q, not %q", got, want)
		}
		for i := range got[:cap(got)] {
			got[:cap(got)][i] = "written"
		}
		if !slices.Equal(lines[:cap(lines)], before) {
			t.Errorf("it was %q, and is %q", before, lines[:cap(lines)])
		}
	}
}

// isTold tells whether an answer is an error's text.
func isTold(answer string) bool {
	return slices.ContainsFunc([]error{api.ErrText, api.ErrBound, api.ErrShape, api.ErrMajor, api.ErrNone, api.ErrExist, api.ErrFull, api.ErrOrder, api.ErrClash}, func(err error) bool { return answer == err.Error() })
}

// Whatever a line is, it has an answer, and the ones behind it have theirs.
func TestLinesOfAnyText(t *testing.T) {
	names := strings.Fields("entry back main show list up get why news which packs sums")
	try := func(line string) {
		got, err := script.Run([]string{"entry a@v1.0.0 - .", "get a", line, "list", "show", line})
		if err != nil || len(got) != 6 || got[2] == "" || got[3] == "" || got[4] == "" || got[5] == "" {
			t.Fatalf("%q: %q, %v", line, got, err)
		}
		name, _, _ := strings.Cut(line, " ")
		if !slices.Contains(names, name) && got[2] != "pewholder: text" {
			t.Errorf("%q: %q", line, got[2])
		}
	}
	samples.EachText("a@v1.0 -,", 4, try)
	samples.EachText("a@-,;. \xff", 3, func(s string) {
		for _, name := range names {
			try(name + s)
			try(name + " " + s)
			try(name + " a@v1.0.0 " + s)
			try(name + " a@v1.1.0 " + s + " " + s)
		}
	})
	for i := range 256 {
		for _, name := range names {
			try(string([]byte{byte(i)}) + name)
			try(name + string([]byte{byte(i)}))
			try(name + " " + string([]byte{byte(i)}))
		}
	}
}

func TestVeryLongLines(t *testing.T) {
	for _, piece := range []string{"a", " ", ",", ";", "@", "a@v1.0.0,", "a ", "...", "/", "module m;", "- "} {
		for _, head := range []string{"", "entry ", "entry b@v1.0.0 ", "entry b@v1.0.0 - ", "back ", "main ", "get ", "get a@", "why ", "which ", "list "} {
			got, err := script.Run([]string{"entry a@v1.0.0 - .", head + strings.Repeat(piece, 20000), "list"})
			if err != nil || len(got) != 3 || !isTold(got[1]) || got[2] != "nothing" {
				t.Errorf("%q and many of %q: %.200q, %v", head, piece, got, err)
			}
		}
	}
}

// The bound is told bare, and nothing beside it.
func TestTheBoundIsBare(t *testing.T) {
	got, err := script.Run(make([]string, api.MaxLines+1))
	var f *api.Fault
	if len(got) > 0 || err != api.ErrBound || errors.As(err, &f) {
		t.Errorf("%q, %#v", got, err)
	}
}
