package graph

import (
	"pewholder/api"
	"pewholder/index"
)

func check(l []api.Entry, roots []api.Mod) error {
	if err := index.Check(l); err != nil {
		return err
	}
	return index.CheckMods(l, roots)
}

// reached takes them out of the index, so that they rise as the index does.
func reached(l []api.Entry, roots []api.Mod) ([]api.Entry, error) {
	if err := check(l, roots); err != nil {
		return nil, err
	}
	by := walk(l, roots)
	var out []api.Entry
	for _, e := range l {
		if came(by, e.Mod) {
			out = append(out, e)
		}
	}
	return out, nil
}

// walk tells by whom each module came: a root by itself, any other by the one that requires it and came first.
// All that is near comes ahead of what is farther off, so that going back from one to whom it came by is a shortest way.
func walk(l []api.Entry, roots []api.Mod) map[api.Mod]api.Mod {
	by := map[api.Mod]api.Mod{}
	var order []api.Mod
	come := func(m, from api.Mod) {
		if !came(by, m) {
			by[m] = from
			order = append(order, m)
		}
	}
	for _, m := range roots {
		come(m, m)
	}
	for i := 0; i < len(order); i++ {
		for _, m := range l[index.Find(l, order[i])].Reqs {
			come(m, order[i])
		}
	}
	return by
}

func came(by map[api.Mod]api.Mod, m api.Mod) bool {
	_, ok := by[m]
	return ok
}
