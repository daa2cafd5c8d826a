// Package script is layer 58 (sessions as text): see shared/doc/58-script.md.
package script

import (
	"strings"

	"tracebook/api"
	"tracebook/num"
)

// Line returns the first word and the arguments of a line; false if the line is ignored.
func Line(s string) (string, []string, bool) {
	s, _, _ = strings.Cut(s, "#")
	s = strings.TrimRight(s, " ")
	if s == "" {
		return "", nil, false
	}
	word, _, _ := strings.Cut(s, " ")
	most := -1 // the number of parts into which the line is divided; -1 for any number
	switch word {
	case "ev":
		most = 3
	case "query":
		most = 2
	}
	return word, strings.SplitN(s, " ", most)[1:], true
}

// command is a line that is not ignored.
type command struct {
	word string
	args []string
	n    []int // the numbers of the arguments; 0 for those that are no numbers
}

// form returns the form of a line that begins with a word: a letter for each argument, n for a number, N for a name,
// p for a policy, t for a text. It returns false if there is no such line.
func form(word string) (string, bool) {
	switch word {
	case "domain":
		return "nn", true
	case "thread":
		return "nNn", true
	case "open":
		return "npn", true
	case "ev":
		return "nt", true
	case "snap":
		return "nnnnn", true
	case "flush", "gaps", "order":
		return "", true
	case "arm", "crash", "lost":
		return "n", true
	case "query":
		return "t", true
	}
	return "", false
}

// policyOf returns the policy with a name.
func policyOf(name string) (api.Policy, bool) {
	switch name {
	case "overwrite":
		return api.Overwrite, true
	case "stall":
		return api.Stall, true
	}
	return 0, false
}

// read returns the command of a line, if it is of a form.
func read(word string, args []string) (command, bool) {
	letters, ok := form(word)
	if !ok || len(args) != len(letters) {
		return command{}, false
	}
	c := command{word: word, args: args}
	for i, s := range args {
		n := 0
		ok := true
		switch letters[i] {
		case 'n':
			n, ok = num.Parse(s)
		case 'N':
			ok = s != ""
		case 'p':
			_, ok = policyOf(s)
		}
		if !ok {
			return command{}, false
		}
		c.n = append(c.n, n)
	}
	return c, true
}

// lines divides a script into lines, which end with line feeds.
func lines(s string) []string {
	if s == "" {
		return nil
	}
	return strings.Split(strings.TrimSuffix(s, "\n"), "\n")
}

// commands returns the commands of a script, or the number of the first line that is wrong.
func commands(l []string) ([]command, int) {
	var all []command
	opened := false
	for i, s := range l {
		word, args, ok := Line(s)
		if !ok {
			continue
		}
		c, ok := read(word, args)
		if !ok || stands(word) != opened {
			return nil, i + 1
		}
		opened = opened || word == "open"
		all = append(all, c)
	}
	return all, 0
}

// stands reports whether lines that begin with a word stand after open, and not before it.
func stands(word string) bool {
	switch word {
	case "domain", "thread", "open":
		return false
	}
	return true
}
