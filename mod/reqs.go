package mod

import (
	"pewholder/api"
	"pewholder/place"
)

// CheckReqs checks what a module of that path requires.
func CheckReqs(own string, reqs []api.Mod) error {
	return place.First(reqs, func(i int, m api.Mod) error {
		if err := Check(m); err != nil {
			return err
		}
		if m.Path == own {
			return api.ErrShape
		}
		if i > 0 && reqs[i-1].Path >= m.Path {
			return api.ErrOrder
		}
		return nil
	})
}
