package file

import (
	"strings"

	"pewholder/api"
	"pewholder/place"
)

func writeMods(b *strings.Builder, word string, l []api.Mod) {
	for _, m := range l {
		b.WriteString(word + " " + m.Path + " " + m.Ver + "\n")
	}
}

// readLines reads the words of a file, whatever they are, as far as the lines are right.
func readLines(s string) (api.File, error) {
	var f api.File
	err := place.First(strings.SplitAfter(s, "\n"), func(i int, line string) error {
		// Behind the last line end there is an empty piece, which is no line.
		if i > 0 && line == "" {
			return nil
		}
		return readLine(&f, i, line)
	})
	return f, err
}

// readLine adds a line to the file, of which the lines ahead are there: these say what may still come.
func readLine(f *api.File, i int, line string) error {
	line, ended := strings.CutSuffix(line, "\n")
	if !ended {
		return api.ErrText
	}
	words := strings.Split(line, " ")
	switch {
	case i == 0 && len(words) == 2 && words[0] == "module":
		f.Path = words[1]
	case i > 0 && len(words) == 3 && words[0] == "require" && len(f.Exclude) == 0:
		f.Reqs = append(f.Reqs, api.Mod{Path: words[1], Ver: words[2]})
	case i > 0 && len(words) == 3 && words[0] == "exclude":
		f.Exclude = append(f.Exclude, api.Mod{Path: words[1], Ver: words[2]})
	default:
		return api.ErrText
	}
	return nil
}
