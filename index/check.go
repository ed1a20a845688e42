package index

import (
	"slices"

	"pewholder/api"
	"pewholder/mod"
	"pewholder/place"
)

// CheckMods tells the first of these modules that is no entry.
func CheckMods(l []api.Entry, mods []api.Mod) error {
	return place.First(mods, func(_ int, m api.Mod) error {
		if Find(l, m) < 0 {
			return api.ErrNone
		}
		return nil
	})
}

// checkEach checks the entries as far as each can be told by itself and the one ahead.
func checkEach(l []api.Entry) error {
	return place.First(l, func(i int, e api.Entry) error {
		if err := mod.Check(e.Mod); err != nil {
			return err
		}
		if i > 0 && !mod.Ahead(l[i-1].Mod, e.Mod) {
			return api.ErrOrder
		}
		if len(e.Reqs) > api.MaxReqs {
			return api.ErrFull
		}
		if err := mod.CheckReqs(e.Mod.Path, e.Reqs); err != nil {
			// The place is the entry's, not that of the requirement.
			return place.Bare(err)
		}
		return checkPacks(e.Packs)
	})
}

func checkPacks(packs []string) error {
	switch {
	case len(packs) > api.MaxPacks:
		return api.ErrFull
	case slices.ContainsFunc(packs, noPack):
		return api.ErrText
	case !slices.Equal(packs, rising(packs)):
		return api.ErrOrder
	}
	return nil
}

func noPack(s string) bool {
	return s != "." && mod.Path(s) != nil
}
