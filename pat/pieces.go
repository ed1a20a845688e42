package pat

import "strings"

// anything stands in a pattern for any text. Of more dots in a row the first ones are meant.
const anything = "..."

// matcher answers what tells whether a text matches a pattern.
func matcher(p string) func(string) bool {
	whole := pieces(p)
	head, open := strings.CutSuffix(p, "/"+anything)
	if !open {
		return whole
	}
	// The end may be left out once: a head that ends likewise keeps its own.
	short := pieces(head)
	return func(s string) bool { return whole(s) || short(s) }
}

// pieces answers what tells whether a text is made of a pattern's pieces, with anything between two of them.
func pieces(p string) func(string) bool {
	all := strings.Split(p, anything)
	last := len(all) - 1
	if last == 0 {
		return func(s string) bool { return s == p }
	}
	return func(s string) bool {
		rest, found := strings.CutPrefix(s, all[0])
		for _, piece := range all[1:last] {
			if !found {
				return false
			}
			// The first place leaves the most for the pieces behind, so no other one need be tried.
			_, rest, found = strings.Cut(rest, piece)
		}
		return found && strings.HasSuffix(rest, all[last])
	}
}
