package ver

import (
	"strings"

	"pewholder/api"
)

// worse of two errors: ErrBound is told only of what is right but for its bounds, so ErrText goes ahead of it wherever it comes up.
func worse(a, b error) error {
	if a == api.ErrText || b == nil {
		return a
	}
	return b
}

// readNumbers reads all numbers of a text, a dot between; the error is the worst of them.
func readNumbers(s string) ([]int, error) {
	var nums []int
	var bad error
	for _, piece := range strings.Split(s, ".") {
		n, err := readNumber(piece)
		bad = worse(bad, err)
		nums = append(nums, n)
	}
	return nums, bad
}

func readNumber(s string) (int, error) {
	if !digitsAlone(s) || len(s) > 1 && s[0] == '0' {
		return 0, api.ErrText
	}
	n := 0
	for i := range len(s) {
		// It stops just above the bound, so that it can't wrap round, however many digits there are.
		n = min(n*10+int(s[i]-'0'), api.MaxNum+1)
	}
	if !inBounds(n) {
		return 0, api.ErrBound
	}
	return n, nil
}

func inBounds(n int) bool {
	return 0 <= n && n <= api.MaxNum
}

// checkPre checks the parts of a Pre, of which there may be none.
func checkPre(pre []string) error {
	var bad error
	if len(pre) > api.MaxPre {
		bad = api.ErrBound
	}
	for _, part := range pre {
		bad = worse(bad, checkPart(part))
	}
	return bad
}

func checkPart(s string) error {
	if len(s) < 1 || len(s) > api.MaxPart || !every(s, inPart) {
		return api.ErrText
	}
	if !digitsAlone(s) {
		return nil
	}
	_, err := readNumber(s)
	return err
}

func digitsAlone(s string) bool {
	return len(s) > 0 && every(s, isDigit)
}

func every(s string, fits func(byte) bool) bool {
	for i := range len(s) {
		if !fits(s[i]) {
			return false
		}
	}
	return true
}

func isDigit(c byte) bool {
	return '0' <= c && c <= '9'
}

func inPart(c byte) bool {
	return isDigit(c) || 'a' <= c && c <= 'z' || 'A' <= c && c <= 'Z' || c == '-'
}
