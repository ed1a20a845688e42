package pkg

import (
	"cmp"
	"slices"

	"pewholder/api"
	"pewholder/index"
)

// having is those of the modules that have a package, the longest paths first. Stable: of one path in several versions the first one listed stays ahead.
func having(l []api.Entry, mods []api.Mod, p string) []api.Mod {
	var found []api.Mod
	for _, m := range mods {
		if slices.Contains(packages(l, m), p) {
			found = append(found, m)
		}
	}
	slices.SortStableFunc(found, func(a, b api.Mod) int { return cmp.Compare(len(b.Path), len(a.Path)) })
	return found
}

// packages of a module, which must be an entry.
func packages(l []api.Entry, m api.Mod) []string {
	var out []string
	for _, pack := range l[index.Find(l, m)].Packs {
		if pack == "." {
			out = append(out, m.Path)
		} else {
			out = append(out, m.Path+"/"+pack)
		}
	}
	return out
}

// latest is each path of an index in its latest version.
func latest(l []api.Entry) []api.Mod {
	var out []api.Mod
	for _, path := range index.Paths(l) {
		out = append(out, api.Mod{Path: path, Ver: index.Latest(l, path)})
	}
	return out
}
