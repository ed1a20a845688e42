package ver

import (
	"cmp"
	"slices"
	"strings"

	"pewholder/chars"
)

// firstUnlike goes through the steps, one behind the other, until one of them tells the two apart.
func firstUnlike(steps ...func() int) int {
	for _, step := range steps {
		if c := step(); c != 0 {
			return c
		}
	}
	return 0
}

// compare answers below 0 if a is less, above 0 if b is, and 0 only for one and the same version.
func compare(a, b Parts) int {
	return firstUnlike(
		func() int { return cmp.Compare(a.Major, b.Major) },
		func() int { return cmp.Compare(a.Minor, b.Minor) },
		func() int { return cmp.Compare(a.Patch, b.Patch) },
		func() int { return comparePre(a.Pre, b.Pre) },
	)
}

func comparePre(a, b []string) int {
	if len(a) == 0 || len(b) == 0 {
		// The other way round: none at all comes behind any.
		return cmp.Compare(len(b), len(a))
	}
	return slices.CompareFunc(a, b, comparePart)
}

func comparePart(a, b string) int {
	numA, numB := chars.Digits(a), chars.Digits(b)
	switch {
	case numA && numB:
		// Without needless zeros, the number with more digits is the greater one.
		return firstUnlike(
			func() int { return cmp.Compare(len(a), len(b)) },
			func() int { return strings.Compare(a, b) },
		)
	case numA:
		return -1
	case numB:
		return 1
	}
	return strings.Compare(a, b)
}
