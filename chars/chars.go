// Package chars: what versions and paths are written with: bytes of a text, and numbers.
package chars

import "pewholder/api"

// Every tells whether all bytes of a text fit.
func Every(s string, fits func(byte) bool) bool {
	for i := range len(s) {
		if !fits(s[i]) {
			return false
		}
	}
	return true
}

// Digit: is a byte one?
func Digit(c byte) bool {
	return '0' <= c && c <= '9'
}

// Small: is a byte a small letter?
func Small(c byte) bool {
	return 'a' <= c && c <= 'z'
}

// Digits tells whether a text is digits alone, one at least.
func Digits(s string) bool {
	return len(s) > 0 && Every(s, Digit)
}

// Numeral tells whether a text is a number, however great, without needless zeros.
func Numeral(s string) bool {
	return Digits(s) && (len(s) == 1 || s[0] != '0')
}

// Number reads one. ErrText: it is none, or has needless zeros; ErrBound: it is above MaxNum.
func Number(s string) (int, error) {
	if !Numeral(s) {
		return 0, api.ErrText
	}
	n := 0
	for i := range len(s) {
		// It stops just above the bound, so that it can't wrap round, however many digits there are.
		n = min(n*10+int(s[i]-'0'), api.MaxNum+1)
	}
	if n > api.MaxNum {
		return 0, api.ErrBound
	}
	return n, nil
}
