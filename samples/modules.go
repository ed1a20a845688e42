package samples

import (
	"errors"
	"strconv"
	"strings"

	"pewholder/api"
)

// Mod reads `PATH@VERSION`, right or wrong.
func Mod(word string) api.Mod {
	path, version, _ := strings.Cut(word, "@")
	return api.Mod{Path: path, Ver: version}
}

// Mods reads `PATH@VERSION` words, right or wrong.
func Mods(words string) []api.Mod {
	var l []api.Mod
	for _, w := range strings.Fields(words) {
		l = append(l, Mod(w))
	}
	return l
}

// Words writes modules, right or wrong, as Mods reads them.
func Words(l []api.Mod) string {
	var words []string
	for _, m := range l {
		words = append(words, m.Path+"@"+m.Ver)
	}
	return strings.Join(words, " ")
}

// Row is so many modules, paths rising, as words; up to 1000.
func Row(n int) string {
	var words []string
	for i := range n {
		words = append(words, "r"+strconv.Itoa(1000 + i)[1:]+"@v1.0.0")
	}
	return strings.Join(words, " ")
}

// Lines is so many entries that require nothing, a line each; up to 1000.
func Lines(n int) string {
	return strings.ReplaceAll(Row(n), " ", "\n")
}

// Index reads entries, right or wrong, a line each: `a@v1.0.0 needs b@v1.0.0 c@v1.0.0 has . x/y back`, of which only the module must be there.
func Index(text string) []api.Entry {
	var l []api.Entry
	for _, line := range strings.Split(text, "\n") {
		if words := strings.Fields(line); len(words) > 0 {
			l = append(l, entry(words))
		}
	}
	return l
}

func entry(words []string) api.Entry {
	e := api.Entry{Mod: Mod(words[0])}
	part := ""
	for _, w := range words[1:] {
		switch {
		case w == "needs" || w == "has":
			part = w
		case w == "back":
			e.Back = true
		case part == "needs":
			e.Reqs = append(e.Reqs, Mod(w))
		case part == "has":
			e.Packs = append(e.Packs, w)
		}
	}
	return e
}

// SameFault tells whether an error is that one, at that place (-1: bare).
func SameFault(err, want error, at int) bool {
	var f *api.Fault
	if errors.As(err, &f) {
		return f.Err == want && f.At == at
	}
	return err == want && at == -1
}
