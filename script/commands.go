package script

import (
	"slices"
	"strings"

	"pewholder/api"
	"pewholder/mvs"
)

// Numbers of words that are none.
const (
	anyNumber = -1
	oneText   = -2 // all that stands there is one, also its blanks
)

// command: how many words stand behind its name, and what it does with them.
type command struct {
	words int
	do    func([]string) (string, error)
}

// commands by their names.
func (s *state) commands() map[string]command {
	return map[string]command{
		"entry": {3, s.entry},
		"back":  {1, s.back},
		"main":  {oneText, s.main},
		"show":  {0, s.show},
		"list":  {0, s.ofBuild(s.list)},
		"up":    {0, s.up},
		"get":   {anyNumber, s.get},
		"why":   {1, s.why},
		"news":  {0, s.ofBuild(s.news)},
		"which": {1, s.ofBuild(s.which)},
		"packs": {0, s.ofBuild(s.packs)},
		"sums":  {0, s.ofBuild(s.sums)},
	}
}

// ofBuild makes what a command does of what is told of the build.
func (s *state) ofBuild(tell func([]api.Mod, []string) (string, error)) func([]string) (string, error) {
	return func(words []string) (string, error) {
		built, err := mvs.Build(s.index, s.file.Reqs)
		if err != nil {
			return "", err
		}
		return tell(built, words)
	}
}

// run a line, which is one of these commands, or wrong.
func run(all map[string]command, line string) (string, error) {
	name, rest, more := strings.Cut(line, " ")
	c, known := all[name]
	if !known {
		return "", api.ErrText
	}
	var words []string
	if more {
		words = c.split(rest)
	}
	if !c.takes(words) {
		return "", api.ErrText
	}
	return c.do(words)
}

func (c command) split(rest string) []string {
	if c.words == oneText {
		return []string{rest}
	}
	return strings.Split(rest, " ")
}

// takes: are these the words of such a command? An empty one is none: there are two blanks, or one at the end.
func (c command) takes(words []string) bool {
	switch c.words {
	case oneText:
		return len(words) == 1
	case anyNumber:
		return !slices.Contains(words, "")
	}
	return len(words) == c.words && !slices.Contains(words, "")
}
