package ver

import (
	"strings"

	"pewholder/api"
	"pewholder/chars"
)

// worse of two errors: ErrBound is told only of what is right but for its bounds, so ErrText goes ahead of it wherever it comes up.
func worse(a, b error) error {
	if a == api.ErrText || b == nil {
		return a
	}
	return b
}

// readNumbers reads all numbers of a text, a dot between; the error is the worst of them.
func readNumbers(s string) ([]int, error) {
	var nums []int
	var bad error
	for _, piece := range strings.Split(s, ".") {
		n, err := chars.Number(piece)
		bad = worse(bad, err)
		nums = append(nums, n)
	}
	return nums, bad
}

// readHead reads the one or two numbers that a version may begin with.
func readHead(head string) ([]int, error) {
	rest, marked := strings.CutPrefix(head, "v")
	nums, bad := readNumbers(rest)
	if !marked || len(nums) > 2 {
		return nil, api.ErrText
	}
	if bad != nil {
		return nil, bad
	}
	return nums, nil
}

func inBounds(n int) bool {
	return 0 <= n && n <= api.MaxNum
}

// checkPre checks the parts of a Pre, of which there may be none.
func checkPre(pre []string) error {
	var bad error
	if len(pre) > api.MaxPre {
		bad = api.ErrBound
	}
	for _, part := range pre {
		bad = worse(bad, checkPart(part))
	}
	return bad
}

func checkPart(s string) error {
	if len(s) < 1 || len(s) > api.MaxPart || !chars.Every(s, inPart) {
		return api.ErrText
	}
	if !chars.Digits(s) {
		return nil
	}
	_, err := chars.Number(s)
	return err
}

func inPart(c byte) bool {
	return chars.Digit(c) || chars.Small(c) || 'A' <= c && c <= 'Z' || c == '-'
}
