package samples

import (
	"slices"

	"pewholder/api"
)

// Spare is a list with room behind its length, and something in it.
func Spare[T any](l []T, behind ...T) []T {
	return append(slices.Clone(l), behind...)[:len(l)]
}

// SpareIndex has such room behind each of its lists.
func SpareIndex(l []api.Entry) []api.Entry {
	out := Spare(l, Index("a@v1.9.0\n@")...)
	for i, e := range l {
		out[i].Reqs = Spare(e.Reqs, Mods("behind@v1.0.0 x@")...)
		out[i].Packs = Spare(e.Packs, "behind", "X")
	}
	return out
}

// Whole is a copy of an index with all that its lists hold, also behind their lengths.
func Whole(l []api.Entry) []api.Entry {
	out := slices.Clone(l[:cap(l)])
	for i, e := range out {
		out[i].Reqs = slices.Clone(e.Reqs[:cap(e.Reqs)])
		out[i].Packs = slices.Clone(e.Packs[:cap(e.Packs)])
	}
	return out
}
