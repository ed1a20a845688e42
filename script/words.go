package script

import (
	"strings"

	"pewholder/api"
	"pewholder/mod"
)

// Words in the place of a list that has nothing in it: in a line, and in an answer.
const (
	noList  = "-"
	nothing = "nothing"
)

// readEntry reads a module, what it requires, and its packages, which the index checks.
func readEntry(words []string) (api.Entry, error) {
	m, err := mod.Read(words[0])
	if err != nil {
		return api.Entry{}, err
	}
	e := api.Entry{Mod: m, Packs: pieces(words[2])}
	for _, word := range pieces(words[1]) {
		req, err := mod.Read(word)
		if err != nil {
			return api.Entry{}, err
		}
		e.Reqs = append(e.Reqs, req)
	}
	return e, nil
}

func pieces(word string) []string {
	if word == noList {
		return nil
	}
	return strings.Split(word, ",")
}

// listMods is what is told of modules, or the error that came instead.
func listMods(mods []api.Mod, err error) (string, error) {
	return listOf(mods, err, mod.Text)
}

func listOf[T any](l []T, err error, text func(T) string) (string, error) {
	if err != nil {
		return "", err
	}
	if len(l) == 0 {
		return nothing, nil
	}
	var words []string
	for _, x := range l {
		words = append(words, text(x))
	}
	return strings.Join(words, " "), nil
}
