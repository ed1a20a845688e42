// Package ver: versions: see ../shared/doc/01-ver.md.
package ver

import (
	"slices"
	"strconv"
	"strings"

	"pewholder/api"
)

// Parts of a version.
type Parts struct {
	Major, Minor, Patch int
	Pre                 []string
}

// Split a version.
func Split(s string) (Parts, error) {
	rest, marked := strings.CutPrefix(s, "v")
	core, tail, hasPre := strings.Cut(rest, "-")
	nums, bad := readNumbers(core)
	if !marked || len(nums) != 3 {
		return Parts{}, api.ErrText
	}
	var pre []string
	if hasPre {
		pre = strings.Split(tail, ".")
		bad = worse(bad, checkPre(pre))
	}
	if bad != nil {
		return Parts{}, bad
	}
	return Parts{Major: nums[0], Minor: nums[1], Patch: nums[2], Pre: pre}, nil
}

// Check a version.
func Check(s string) error {
	_, err := Split(s)
	return err
}

// Text of parts.
func Text(p Parts) string {
	if !inBounds(p.Major) || !inBounds(p.Minor) || !inBounds(p.Patch) || checkPre(p.Pre) != nil {
		return ""
	}
	s := "v" + strconv.Itoa(p.Major) + "." + strconv.Itoa(p.Minor) + "." + strconv.Itoa(p.Patch)
	if len(p.Pre) == 0 {
		return s
	}
	return s + "-" + strings.Join(p.Pre, ".")
}

// Less: is a version less than another one?
func Less(a, b string) bool {
	p, errA := Split(a)
	q, errB := Split(b)
	return errA == nil && errB == nil && compare(p, q) < 0
}

// Max of two.
func Max(a, b string) string {
	p, errA := Split(a)
	q, errB := Split(b)
	switch {
	case errA != nil && errB != nil:
		return ""
	case errA != nil:
		return b
	case errB != nil:
		return a
	case compare(p, q) < 0:
		return b
	}
	return a
}

// Sort versions.
func Sort(l []string) []string {
	var found []Parts
	for _, s := range l {
		if p, err := Split(s); err == nil {
			found = append(found, p)
		}
	}
	slices.SortFunc(found, compare)
	// A version is written in one way only, so those that compare alike are the same text.
	found = slices.CompactFunc(found, func(a, b Parts) bool { return compare(a, b) == 0 })
	var out []string
	for _, p := range found {
		out = append(out, Text(p))
	}
	return out
}

// Begins: does a version begin so?
func Begins(s, head string) bool {
	p, err := Split(s)
	if err != nil {
		return false
	}
	if head == s {
		return true
	}
	nums, err := readHead(head)
	if err != nil {
		return false
	}
	first := []int{p.Major, p.Minor}
	return slices.Equal(nums, first[:len(nums)])
}

// CheckHead: can a version begin so, and not be it? ErrText: it is not `v` and one or two numbers; ErrBound: a number above MaxNum, but else right.
func CheckHead(head string) error {
	_, err := readHead(head)
	return err
}
