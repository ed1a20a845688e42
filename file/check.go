package file

import (
	"slices"

	"pewholder/api"
	"pewholder/mod"
	"pewholder/place"
)

func checkExclude(exclude []api.Mod) error {
	return place.First(exclude, func(i int, m api.Mod) error {
		if err := mod.Check(m); err != nil {
			return err
		}
		if i > 0 && !mod.Ahead(exclude[i-1], m) {
			return api.ErrOrder
		}
		return nil
	})
}

func checkClash(f api.File) error {
	return place.First(f.Reqs, func(_ int, m api.Mod) error {
		if slices.Contains(f.Exclude, m) {
			return api.ErrClash
		}
		return nil
	})
}
