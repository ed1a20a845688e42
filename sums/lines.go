package sums

import (
	"strconv"
	"strings"

	"pewholder/api"
	"pewholder/chars"
	"pewholder/mod"
)

// maxDigits of a sum: longer ones are not read at all, not even to tell that they are too great.
const maxDigits = 10

// checkAt holds a line against the one ahead of it.
func checkAt(l []Line, i int) error {
	if err := mod.Check(l[i].Mod); err != nil {
		return err
	}
	if i > 0 && !mod.Ahead(l[i-1].Mod, l[i].Mod) {
		return api.ErrOrder
	}
	return nil
}

func lineText(l Line) string {
	return l.Mod.Path + " " + l.Mod.Ver + " " + strconv.FormatUint(uint64(l.Sum), 10) + "\n"
}

// readLine reads the words of a line; its module may be wrong.
func readLine(text string) (Line, error) {
	text, ended := strings.CutSuffix(text, "\n")
	words := strings.Split(text, " ")
	if !ended || len(words) != 3 {
		return Line{}, api.ErrText
	}
	sum, err := readSum(words[2])
	if err != nil {
		return Line{}, err
	}
	return Line{Mod: api.Mod{Path: words[0], Ver: words[1]}, Sum: sum}, nil
}

func readSum(s string) (uint32, error) {
	if !chars.Numeral(s) || len(s) > maxDigits {
		return 0, api.ErrText
	}
	n, err := strconv.ParseUint(s, 10, 32)
	if err != nil {
		// It is a number: all that can be wrong is that it has more than 32 bits.
		return 0, api.ErrBound
	}
	return uint32(n), nil
}
