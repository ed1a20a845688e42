package query

import (
	"strconv"
	"strings"

	"pewholder/api"
	"pewholder/ver"
)

// Queries that are words.
const (
	latest  = "latest"
	upgrade = "upgrade"
	patch   = "patch"
	none    = "none"
)

// Signs that stand ahead of a version.
const (
	below     = "<"
	belowOrIt = "<="
	above     = ">"
	aboveOrIt = ">="
)

func isWord(q string) bool {
	switch q {
	case latest, upgrade, patch, none:
		return true
	}
	return false
}

// cutSign answers the sign of a query (none: empty), and what stands behind it. A sign that is the beginning of another one comes behind it.
func cutSign(q string) (string, string) {
	for _, sign := range []string{belowOrIt, aboveOrIt, below, above} {
		if version, has := strings.CutPrefix(q, sign); has {
			return sign, version
		}
	}
	return "", q
}

// fits answers what tells whether a version is one of those that a query asks for.
func fits(q, now string) func(string) bool {
	sign, version := cutSign(q)
	switch sign {
	case below:
		return func(v string) bool { return ver.Less(v, version) }
	case belowOrIt:
		return func(v string) bool { return !ver.Less(version, v) }
	case above:
		return func(v string) bool { return ver.Less(version, v) }
	case aboveOrIt:
		return func(v string) bool { return !ver.Less(v, version) }
	}
	switch q {
	case latest, upgrade:
		return anything
	case patch:
		return fitsPatch(now)
	}
	return func(v string) bool { return ver.Begins(v, q) }
}

func anything(string) bool {
	return true
}

func fitsPatch(now string) func(string) bool {
	p, err := ver.Split(now)
	if err != nil {
		return anything
	}
	head := "v" + strconv.Itoa(p.Major) + "." + strconv.Itoa(p.Minor)
	return func(v string) bool { return ver.Begins(v, head) && !ver.Less(v, now) }
}

// where cuts an index down to the versions that fit. It is an index no more, as what these require may be gone.
func where(l []api.Entry, fit func(string) bool) []api.Entry {
	var out []api.Entry
	for _, e := range l {
		if fit(e.Mod.Ver) {
			out = append(out, e)
		}
	}
	return out
}
