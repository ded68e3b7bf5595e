package script

import (
	"strconv"
	"strings"
)

// namesWord stands in a crash ahead of the numbers.
const namesWord = "names"

// parseStep: the step that a line is; false: it is none.
func parseStep(line string) (Step, bool) {
	word, rest, more := strings.Cut(line, " ")
	switch word {
	case "run":
		return parseNumbered(Run, rest)
	case "start":
		return Step{Kind: Start}, !more
	case "arm":
		return parseNumbered(Arm, rest)
	case "crash":
		if !more {
			return Step{Kind: Crash}, true
		}
		return parseCrash(strings.Split(rest, " "))
	case "quota":
		return parseNumbered(Quota, rest)
	case "spoil":
		return Step{Kind: Spoil, Text: rest}, more
	}
	return Step{}, false
}

// parseNumbered: a step of a kind that has a number and nothing else.
func parseNumbered(kind int, digits string) (Step, bool) {
	n, ok := parseNumber(digits)
	return Step{Kind: kind, N: n}, ok
}

// parseCrash: a crash of which these words are told.
func parseCrash(words []string) (Step, bool) {
	x := Step{Kind: Crash, Names: words[0] == namesWord}
	if x.Names {
		words = words[1:]
	}
	for _, word := range words {
		n, ok := parseNumber(word)
		if !ok {
			return Step{}, false
		}
		x.Keeps = append(x.Keeps, n)
	}
	return x, true
}

// parseNumber: a script's number, which is written in one way alone.
func parseNumber(s string) (int, bool) {
	n, err := strconv.Atoi(s)
	if err != nil || n < -1 || n > MaxNumber || strconv.Itoa(n) != s {
		return 0, false
	}
	return n, true
}

// line: the one that a step is; false: its kind is none.
func (x Step) line() (string, bool) {
	switch x.Kind {
	case Run:
		return "run " + strconv.Itoa(x.N), true
	case Start:
		return "start", true
	case Arm:
		return "arm " + strconv.Itoa(x.N), true
	case Crash:
		return x.crashLine(), true
	case Quota:
		return "quota " + strconv.Itoa(x.N), true
	case Spoil:
		return "spoil " + x.Text, true
	}
	return "", false
}

func (x Step) crashLine() string {
	words := []string{"crash"}
	if x.Names {
		words = append(words, namesWord)
	}
	for _, n := range x.Keeps {
		words = append(words, strconv.Itoa(n))
	}
	return strings.Join(words, " ")
}
