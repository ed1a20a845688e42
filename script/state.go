package script

import (
	"slices"
	"strconv"
	"strings"

	"pewholder/api"
	"pewholder/file"
	"pewholder/get"
	"pewholder/graph"
	"pewholder/index"
	"pewholder/mod"
	"pewholder/pkg"
	"pewholder/sums"
	"pewholder/up"
)

// done is the answer of a line that only changes something.
const done = "ok"

// state is what the lines work on: each on what the ones ahead have left.
type state struct {
	index []api.Entry
	file  api.File
}

func (s *state) entry(words []string) (string, error) {
	e, err := readEntry(words)
	if err != nil {
		return "", err
	}
	if index.Find(s.index, e.Mod) >= 0 {
		return "", api.ErrExist
	}
	next := with(s.index, e)
	if err := index.Check(next); err != nil {
		return "", err
	}
	s.index = next
	return done, nil
}

func (s *state) back(words []string) (string, error) {
	m, err := mod.Read(words[0])
	if err != nil {
		return "", err
	}
	at := index.Find(s.index, m)
	if at < 0 {
		return "", api.ErrNone
	}
	s.index[at].Back = true
	return done, nil
}

func (s *state) main(words []string) (string, error) {
	f, err := file.Read(strings.ReplaceAll(words[0], ";", "\n"))
	if err != nil {
		return "", err
	}
	s.file = f
	return done, nil
}

func (s *state) show(_ []string) (string, error) {
	return strings.ReplaceAll(file.Text(s.file), "\n", ";"), nil
}

func (s *state) list(built []api.Mod, _ []string) (string, error) {
	return listMods(built, nil)
}

func (s *state) up(_ []string) (string, error) {
	return listMods(up.All(s.index, s.file.Reqs))
}

func (s *state) get(words []string) (string, error) {
	next, built, err := get.Get(s.index, s.file, words)
	if err != nil {
		return "", err
	}
	s.file = next
	return listMods(built, nil)
}

func (s *state) why(words []string) (string, error) {
	m, err := mod.Read(words[0])
	if err != nil {
		return "", err
	}
	way, err := graph.Way(s.index, s.file.Reqs, m)
	if err != nil {
		return "", err
	}
	return strconv.Itoa(len(way)), nil
}

func (s *state) news(built []api.Mod, _ []string) (string, error) {
	return listMods(up.News(s.index, built))
}

func (s *state) which(built []api.Mod, words []string) (string, error) {
	m, err := pkg.Of(s.index, built, words[0])
	return mod.Text(m), err
}

func (s *state) packs(built []api.Mod, _ []string) (string, error) {
	all, err := pkg.All(s.index, built)
	return listOf(all, err, func(p string) string { return p })
}

func (s *state) sums(built []api.Mod, _ []string) (string, error) {
	all, err := sums.All(s.index, built)
	return listOf(all, err, func(l sums.Line) string { return strconv.FormatUint(uint64(l.Sum), 10) })
}

// with is a new index that has one entry more, where it comes: the one ahead stays as it is, should this one be wrong.
func with(l []api.Entry, e api.Entry) []api.Entry {
	at := slices.IndexFunc(l, func(x api.Entry) bool { return mod.Ahead(e.Mod, x.Mod) })
	if at < 0 {
		at = len(l)
	}
	return slices.Insert(slices.Clone(l), at, e)
}
