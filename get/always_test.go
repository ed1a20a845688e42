package get_test

import (
	"slices"
	"strings"
	"testing"

	"pewholder/api"
	"pewholder/get"
	"pewholder/graph"
	"pewholder/index"
	"pewholder/pat"
	"pewholder/query"
	"pewholder/samples"
	"pewholder/ver"
)

// eachIndex hands over many indexes of three versions of a, two of b and two of c, which may require one another, also in rings.
func eachIndex(take func([]api.Entry)) {
	ofA := []string{"", "b@v1.0.0", "b@v1.1.0 c@v1.0.0"}
	ofB := []string{"", "a@v1.9.0", "a@v1.10.0 c@v1.1.0-rc"}
	ofC := []string{"", "a@v1.10.0-rc", "b@v1.1.0"}
	for n := range 3 * 3 * 3 * 3 * 3 {
		take(samples.Index("a@v1.9.0 needs " + ofA[n%3] + "\na@v1.10.0-rc\na@v1.10.0 needs " + ofA[n/3%3] +
			"\nb@v1.0.0 needs " + ofB[n/9%3] + "\nb@v1.1.0 needs " + ofB[n/27%3] + "\nc@v1.0.0\nc@v1.1.0-rc needs " + ofC[n/81]))
	}
}

// demand is what one argument asks of one path.
type demand struct {
	at        int
	path, ver string
	wild      bool
}

// answer is what Get answers, as words, or its error.
type answer struct {
	reqs, build string
	err         error
	at          int
}

// built takes the last of each path of all that is reached, which rise.
func built(l []api.Entry, roots []api.Mod) []api.Mod {
	reach, _ := graph.Reach(l, roots)
	var out []api.Mod
	for i, m := range reach {
		if i+1 == len(reach) || reach[i+1].Path != m.Path {
			out = append(out, m)
		}
	}
	return out
}

// in tells the version of a path (not there: none).
func in(sel []api.Mod, path string) string {
	for _, m := range sel {
		if m.Path == path {
			return m.Ver
		}
	}
	return "none"
}

// demandsOf goes through the arguments, and each path that there is or may be.
func demandsOf(l []api.Entry, before []api.Mod, args []string) ([]demand, int, error) {
	var all []demand
	for at, arg := range args {
		pattern, q, has := strings.Cut(arg, "@")
		if !has {
			q = "upgrade"
		}
		wild := strings.Contains(pattern, "...")
		if !wild && !slices.Contains(index.Paths(l), pattern) {
			return nil, at, api.ErrNone
		}
		for _, path := range index.Paths(l) {
			now := strings.TrimPrefix(in(before, path), "none")
			if path != pattern && (!wild || now == "" || !pat.Match(pattern, path)) {
				continue
			}
			v, err := query.Pick(l, path, q, now)
			if err != nil {
				return nil, at, err
			}
			d := demand{at, path, v, wild}
			if slices.ContainsFunc(all, func(o demand) bool { return o.path == path && o.wild == wild && o.ver != v }) {
				return nil, at, api.ErrClash
			}
			all = append(all, d)
		}
	}
	return all, -1, nil
}

// counting is the demands that count, one of each path.
func counting(all []demand) []demand {
	var out []demand
	for _, d := range all {
		beaten := d.wild && slices.ContainsFunc(all, func(o demand) bool { return o.path == d.path && !o.wild })
		if !beaten && !slices.ContainsFunc(out, func(o demand) bool { return o.path == d.path }) {
			out = append(out, d)
		}
	}
	return out
}

// tooNew tells whether an entry reaches anything above what is demanded.
func tooNew(l []api.Entry, m api.Mod, counts []demand) bool {
	reach, _ := graph.Reach(l, []api.Mod{m})
	return slices.ContainsFunc(reach, func(r api.Mod) bool {
		return slices.ContainsFunc(counts, func(d demand) bool { return d.path == r.Path && (d.ver == "none" || ver.Less(d.ver, r.Ver)) })
	})
}

// rootsOf takes, of each of the build, the last that is not newer than it and not too new; and what is demanded.
func rootsOf(l []api.Entry, before []api.Mod, counts []demand) []api.Mod {
	var roots []api.Mod
	for _, m := range before {
		var may []api.Mod
		for _, e := range l {
			if e.Mod.Path == m.Path && !ver.Less(m.Ver, e.Mod.Ver) && !tooNew(l, e.Mod, counts) {
				may = []api.Mod{e.Mod}
			}
		}
		roots = append(roots, may...)
	}
	for _, d := range counts {
		if d.ver != "none" {
			roots = append(roots, api.Mod{Path: d.path, Ver: d.ver})
		}
	}
	return roots
}

// fewest leaves out, from the first on, what is built of the others too.
func fewest(l []api.Entry, sel []api.Mod) []api.Mod {
	left := slices.Clone(sel)
	for i := 0; i < len(left); {
		others := slices.Concat(left[:i], left[i+1:])
		if slices.Equal(built(l, others), sel) {
			left = others
		} else {
			i++
		}
	}
	return left
}

// wantOf is what Get is to answer of a file and arguments which are right.
func wantOf(l []api.Entry, f api.File, args []string) answer {
	before := built(l, f.Reqs)
	excluded := func(m api.Mod) bool { return slices.Contains(f.Exclude, m) }
	if slices.ContainsFunc(before, excluded) {
		return answer{err: api.ErrClash, at: -1}
	}
	all, at, err := demandsOf(l, before, args)
	if err != nil {
		return answer{err: err, at: at}
	}
	counts := counting(all)
	after := built(l, rootsOf(l, before, counts))
	for _, d := range all {
		for _, c := range counts {
			if c.path == d.path && in(after, d.path) != c.ver {
				return answer{err: api.ErrClash, at: d.at}
			}
		}
	}
	if slices.ContainsFunc(after, excluded) {
		return answer{err: api.ErrClash, at: -1}
	}
	return answer{reqs: samples.Words(fewest(l, after)), build: samples.Words(after), at: -1}
}

// checkGet holds Get against P130, P131 and P133, and tells what came of it.
func checkGet(t *testing.T, l []api.Entry, f api.File, args []string) answer {
	got, sel, err := get.Get(l, f, args)
	want := wantOf(l, f, args)
	if samples.Words(got.Reqs) != want.reqs || samples.Words(sel) != want.build || !samples.SameFault(err, want.err, want.at) {
		t.Fatalf("Get(%v, %v, %v): %v, %v, %#v, not %v", l, f, args, got, sel, err, want)
	}
	if err == nil {
		checkAgain(t, l, got, sel)
	}
	return want
}

// checkAgain: what Get answers, got again by exact versions, stays: by all of them, by each alone, and by none.
func checkAgain(t *testing.T, l []api.Entry, f api.File, sel []api.Mod) {
	exact := strings.Fields(samples.Words(sel))
	lists := [][]string{exact, nil}
	for i := range exact {
		lists = append(lists, exact[i:i+1])
	}
	for _, args := range lists {
		got, again, err := get.Get(l, f, args)
		if got.Path != f.Path || !slices.Equal(got.Reqs, f.Reqs) || !slices.Equal(got.Exclude, f.Exclude) || !slices.Equal(again, sel) || err != nil {
			t.Fatalf("Get(%v, %v, %v): %v, %v, %v", l, f, args, got, again, err)
		}
	}
}

func TestWhatIsPinnedIsSoAndStays(t *testing.T) {
	files := []api.File{fileOf("", ""), fileOf("a@v1.10.0", ""), fileOf("a@v1.9.0 b@v1.0.0", "a@v1.10.0"), fileOf("b@v1.1.0 c@v1.1.0-rc", "c@v1.0.0")}
	lists := []string{
		"", "a", "b@v1.0.0", "c@none", "...", "...@none", "...@latest", "a@v1.9.0 c", "c@v1.0.0 b", "a@none b@v1", "a@patch ...", "... b@v1.0.0", "b@v1.0.0 ...@none", "a...@>v1.9.0 c@<v1.1.0", "c...@v1.0.0 ...", "c@>v1.0.0 ... b@none", "a a@v1.9.0", "b@v1.0.0 x", "b...@v1.2.0 x", "b...@v1.0.0 c@v1.0.0 a@upgrade ...@latest",
	}
	type kind struct {
		err error
		at  int
	}
	seen := map[kind]int{}
	eachIndex(func(l []api.Entry) {
		for _, f := range files {
			for _, words := range lists {
				want := checkGet(t, l, f, strings.Fields(words))
				seen[kind{want.err, want.at}]++
			}
		}
	})
	for _, k := range []kind{{nil, -1}, {api.ErrClash, -1}, {api.ErrClash, 0}, {api.ErrClash, 1}, {api.ErrNone, 0}, {api.ErrNone, 1}} {
		if seen[k] == 0 {
			t.Errorf("%v: not seen", k)
		}
	}
}

// What is worked out by hand is what is worked out by rules.
func TestTablesAreAsTheRulesSay(t *testing.T) {
	for _, c := range rightGets {
		want := wantOf(samples.Index(some), fileOf(c.reqs, ""), strings.Fields(c.args))
		if want != (answer{c.want, c.build, nil, -1}) {
			t.Errorf("Get %s of %s: %v", c.args, c.reqs, want)
		}
	}
}
