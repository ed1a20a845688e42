package get

import (
	"pewholder/api"
	"pewholder/file"
	"pewholder/index"
	"pewholder/pat"
	"pewholder/place"
)

// wish is an argument that was read.
type wish struct{ pattern, query string }

// readAll checks all that can be told before anything is built.
func readAll(l []api.Entry, f api.File, args []string) ([]wish, error) {
	if err := index.Check(l); err != nil {
		return nil, err
	}
	if err := file.Check(f); err != nil {
		return nil, place.Bare(err)
	}
	if len(args) > api.MaxArgs {
		return nil, api.ErrFull
	}
	var wishes []wish
	err := place.First(args, func(_ int, arg string) error {
		pattern, asked, err := Arg(arg)
		wishes = append(wishes, wish{pattern, asked})
		return err
	})
	return wishes, err
}

// paths that a wish speaks of, rising as the build does.
func (w wish) paths(built []api.Mod) []string {
	if !pat.Wild(w.pattern) {
		return []string{w.pattern}
	}
	var paths []string
	for _, m := range built {
		paths = append(paths, m.Path)
	}
	return pat.Some(w.pattern, paths)
}
