package mvs

import (
	"slices"
	"strings"

	"pewholder/api"
	"pewholder/index"
	"pewholder/mod"
)

func check(l []api.Entry, roots, sel []api.Mod) error {
	if err := index.Check(l); err != nil {
		return err
	}
	if err := index.CheckMods(l, roots); err != nil {
		return err
	}
	if err := index.CheckMods(l, sel); err != nil {
		return err
	}
	if !IsSelection(sel) {
		return api.ErrOrder
	}
	return nil
}

// IsSelection tells whether paths rise, each once. It does not ask whether the modules are right: that has errors of its own.
func IsSelection(l []api.Mod) bool {
	for i := 1; i < len(l); i++ {
		if l[i-1].Path >= l[i].Path {
			return false
		}
	}
	return true
}

// right is a new list of the modules that are right.
func right(lists ...[]api.Mod) []api.Mod {
	return slices.DeleteFunc(slices.Concat(lists...), func(m api.Mod) bool { return mod.Check(m) != nil })
}

// greatest sorts modules that are right in their own memory, and leaves the greatest of each path.
func greatest(l []api.Mod) []api.Mod {
	slices.SortFunc(l, newestFirst)
	return slices.CompactFunc(l, func(a, b api.Mod) bool { return a.Path == b.Path })
}

// newestFirst has paths rising but versions falling, so that the first of each path is its greatest.
func newestFirst(a, b api.Mod) int {
	switch {
	case a.Path != b.Path:
		return strings.Compare(a.Path, b.Path)
	case mod.Ahead(b, a):
		return -1
	case mod.Ahead(a, b):
		return 1
	}
	return 0
}
