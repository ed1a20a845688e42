package mod

import (
	"slices"
	"strings"

	"pewholder/api"
	"pewholder/chars"
)

// LikePath is Path for what only is written like a path, a pattern or a package: the suffix is a module's, and it may have any.
func LikePath(s string) error {
	err := Path(s)
	if err == api.ErrMajor {
		return nil
	}
	return err
}

// readPath answers what is ahead of a path's suffix, and the suffix's number.
func readPath(s string) (string, int, error) {
	elems := strings.Split(s, "/")
	if slices.ContainsFunc(elems, func(e string) bool { return !isElem(e) }) {
		return "", 0, api.ErrText
	}
	if len(elems) > api.MaxElems || slices.ContainsFunc(elems, func(e string) bool { return len(e) > api.MaxElem }) {
		return "", 0, api.ErrBound
	}
	last := len(elems) - 1
	if last == 0 || !likeSuffix(elems[last]) {
		return s, 0, nil
	}
	n, err := readSuffix(elems[last])
	if err != nil {
		return "", 0, err
	}
	return strings.Join(elems[:last], "/"), n, nil
}

// isElem leaves the length out: one that is too long only has an error of its own.
func isElem(s string) bool {
	onlyDots := strings.Trim(s, ".") == ""
	return !onlyDots && !strings.Contains(s, "...") && chars.Every(s, inElem)
}

func inElem(c byte) bool {
	return chars.Small(c) || chars.Digit(c) || c == '.' || c == '-' || c == '_'
}

// likeSuffix: is it written as a suffix, with whatever number?
func likeSuffix(elem string) bool {
	digits, marked := strings.CutPrefix(elem, "v")
	return marked && chars.Digits(digits)
}

// readSuffix reads the number of what is like a suffix; any number that a suffix can't have is told in one way.
func readSuffix(elem string) (int, error) {
	n, err := chars.Number(strings.TrimPrefix(elem, "v"))
	if err != nil || n < 2 {
		return 0, api.ErrMajor
	}
	return n, nil
}
