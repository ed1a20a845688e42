package chars_test

import (
	"strings"
	"testing"

	"pewholder/api"
	"pewholder/chars"
)

func TestNumber(t *testing.T) {
	for _, c := range []struct {
		text string
		want int
		err  error
	}{
		{"0", 0, nil}, {"7", 7, nil}, {"10", 10, nil}, {"999999", 999999, nil},
		{"", 0, api.ErrText}, {"00", 0, api.ErrText}, {"07", 0, api.ErrText}, {"-1", 0, api.ErrText}, {"+1", 0, api.ErrText},
		{"1_0", 0, api.ErrText}, {"1 ", 0, api.ErrText}, {"0x1", 0, api.ErrText}, {"\u0663", 0, api.ErrText}, {"01000000", 0, api.ErrText},
		{"1000000", 0, api.ErrBound}, {"18446744073709551617", 0, api.ErrBound}, {strings.Repeat("9", 1000), 0, api.ErrBound},
	} {
		if n, err := chars.Number(c.text); n != c.want || err != c.err {
			t.Errorf("Number(%.40q): %d, %v, not %d, %v", c.text, n, err, c.want, c.err)
		}
		if chars.Numeral(c.text) != (c.err != api.ErrText) {
			t.Errorf("Numeral(%.40q): %v", c.text, chars.Numeral(c.text))
		}
	}
}

func TestEachByte(t *testing.T) {
	for i := range 256 {
		c := byte(i)
		s := string([]byte{c})
		if chars.Digit(c) != strings.Contains("0123456789", s) || chars.Digits("1"+s) != chars.Digit(c) {
			t.Errorf("byte %d as a digit", i)
		}
		if chars.Small(c) != strings.Contains("abcdefghijklmnopqrstuvwxyz", s) {
			t.Errorf("byte %d as a small letter", i)
		}
	}
	if chars.Digits("") || !chars.Every("", chars.Digit) {
		t.Error("the empty text")
	}
}
