package down

import (
	"iter"
	"slices"

	"pewholder/api"
	"pewholder/index"
	"pewholder/ver"
)

// none as a cap's version: whatever there is of the path is above it.
const none = "none"

func checkVersion(v string) error {
	if v == none {
		return nil
	}
	return ver.Check(v)
}

// above marks the entries that are greater than their paths' caps by themselves, whatever they require.
func above(l []api.Entry, caps []api.Mod) []bool {
	marks := make([]bool, len(l))
	for i, e := range l {
		marks[i] = slices.ContainsFunc(caps, func(c api.Mod) bool {
			return c.Path == e.Mod.Path && (c.Ver == none || ver.Less(c.Ver, e.Mod.Ver))
		})
	}
	return marks
}

// required has, of each entry, the places of what it requires: they are asked for in each round, and searched for but once.
func required(l []api.Entry) [][]int {
	out := make([][]int, len(l))
	for i, e := range l {
		for _, m := range e.Reqs {
			out[i] = append(out[i], index.Find(l, m))
		}
	}
	return out
}

// spread marks, from the greatest on, what requires one that is marked, and tells whether there was any that was not marked yet.
func spread(needs [][]int, marks []bool) bool {
	changed := false
	isMarked := func(i int) bool { return marks[i] }
	for i, places := range slices.Backward(needs) {
		if !marks[i] && slices.ContainsFunc(places, isMarked) {
			marks[i], changed = true, true
		}
	}
	return changed
}

// fromItDown goes through the places of a module and of the older ones of its path, from the greatest on.
func fromItDown(l []api.Entry, m api.Mod) iter.Seq[int] {
	return func(yield func(int) bool) {
		// An index rises, so the older ones of a path are right ahead of it.
		for i := index.Find(l, m); i >= 0 && l[i].Mod.Path == m.Path; i-- {
			if !yield(i) {
				return
			}
		}
	}
}

// marked is the modules of the entries that are marked: each once, and rising as the index does.
func marked(l []api.Entry, marks []bool) []api.Mod {
	var out []api.Mod
	for i, e := range l {
		if marks[i] {
			out = append(out, e.Mod)
		}
	}
	return out
}
