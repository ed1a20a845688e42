package get

import (
	"maps"
	"slices"

	"pewholder/api"
	"pewholder/down"
	"pewholder/mvs"
	"pewholder/pat"
	"pewholder/place"
	"pewholder/query"
)

// none as a pin's version: the path is not to be there.
const none = "none"

// pin of a path: the version that arguments ask for (empty: no such argument). Those with `...` are held against each other alone, also where they do not count.
type pin struct{ exact, wild string }

// version that counts.
func (p *pin) version() string {
	if p.exact != "" {
		return p.exact
	}
	return p.wild
}

// set a version, unless another one of its kind is there.
func (p *pin) set(version string, wild bool) error {
	kind := &p.exact
	if wild {
		kind = &p.wild
	}
	if *kind != "" && *kind != version {
		return api.ErrClash
	}
	*kind = version
	return nil
}

// inBuild is what versionIn tells of a build that is as it is pinned.
func (p *pin) inBuild() string {
	if p.version() == none {
		return ""
	}
	return p.version()
}

// change pins what is wished, and builds what comes of it.
func change(l []api.Entry, built []api.Mod, wishes []wish) ([]api.Mod, error) {
	pins := map[string]*pin{}
	err := place.First(wishes, func(_ int, w wish) error { return pinWish(l, built, w, pins) })
	if err != nil {
		return nil, err
	}
	next, err := rebuild(l, built, pins)
	if err != nil {
		return nil, err
	}
	err = place.First(wishes, func(_ int, w wish) error { return checkWish(built, next, w, pins) })
	if err != nil {
		return nil, err
	}
	return next, nil
}

func pinWish(l []api.Entry, built []api.Mod, w wish, pins map[string]*pin) error {
	for _, path := range w.paths(built) {
		own := ofPath(l, path)
		if len(own) == 0 {
			return api.ErrNone
		}
		version, err := query.Pick(own, path, w.query, versionIn(built, path))
		if err != nil {
			return err
		}
		if pins[path] == nil {
			pins[path] = &pin{}
		}
		if err := pins[path].set(version, pat.Wild(w.pattern)); err != nil {
			return err
		}
	}
	return nil
}

// ofPath is an index of one path alone, requirements aside: no query asks for more, and the whole one is not checked anew for each path.
func ofPath(l []api.Entry, path string) []api.Entry {
	var own []api.Entry
	for _, e := range l {
		if e.Mod.Path == path {
			own = append(own, api.Entry{Mod: e.Mod, Back: e.Back})
		}
	}
	return own
}

// rebuild takes the build down to the pins, and up to them.
func rebuild(l []api.Entry, built []api.Mod, pins map[string]*pin) ([]api.Mod, error) {
	var caps []api.Mod
	for _, path := range slices.Sorted(maps.Keys(pins)) {
		caps = append(caps, api.Mod{Path: path, Ver: pins[path].version()})
	}
	roots, err := down.To(l, built, caps)
	if err != nil {
		return nil, err
	}
	for _, m := range caps {
		if m.Ver != none {
			roots = append(roots, m)
		}
	}
	return mvs.Build(l, roots)
}

// checkWish tells whether each path of a wish came to be as it is pinned: what another pin requires may be newer.
func checkWish(built, next []api.Mod, w wish, pins map[string]*pin) error {
	for _, path := range w.paths(built) {
		if versionIn(next, path) != pins[path].inBuild() {
			return api.ErrClash
		}
	}
	return nil
}

// versionIn tells in which version a selection has a path (not at all: empty).
func versionIn(sel []api.Mod, path string) string {
	at := slices.IndexFunc(sel, func(m api.Mod) bool { return m.Path == path })
	if at < 0 {
		return ""
	}
	return sel[at].Ver
}
