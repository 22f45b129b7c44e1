package console

import (
	"slices"
	"strconv"
	"strings"

	"wavewright/api"
)

// maxNumber of a line: it has at most five digits.
const maxNumber = 99999

// do what a line says: its answer. ErrText: it says nothing.
func (s *session) do(line string) (string, error) {
	word, text, _ := strings.Cut(line, " ") // a text may be empty, also without the blank
	switch word {
	case "add":
		return s.add(text)
	case "eval":
		return evaluate(text)
	case "spoil":
		return s.spoil(text)
	}
	words := strings.Split(line, " ")
	if slices.Contains(words, "") { // a blank that stands not between two words
		return "", api.ErrText
	}
	return s.doWords(word, words[1:])
}

// doWords: a line that is a word with names or numbers behind it.
func (s *session) doWords(word string, behind []string) (string, error) {
	count := len(behind)
	switch {
	case word == "deploy":
		return s.deploy(behind)
	case word == "destroy":
		return s.destroy(behind)
	case word == "steal" && count > 0:
		return s.steal(behind)
	case word == "yield" && count > 0:
		return s.yield(behind)
	case word == "plan" && count == 1:
		return s.plan(behind[0])
	case word == "state" && count == 1:
		return s.state(behind[0])
	case word == "restart" && count == 2:
		return s.restart(behind[0], behind[1])
	case count == 1:
		return s.doNumber(word, behind[0])
	case count == 0:
		return s.doAlone(word)
	}
	return "", api.ErrText
}

// doNumber: a line that is a word with a number behind it.
func (s *session) doNumber(word, behind string) (string, error) {
	n, err := number(behind)
	if err != nil {
		return "", err
	}
	switch word {
	case "lose":
		s.machine.C.Lose(n)
	case "fail":
		s.machine.C.Fail(s.machine.C.Calls() + n)
	case "arm":
		s.machine.D.Arm(n)
	default:
		return "", api.ErrText
	}
	return done, nil
}

// doAlone: a line that is one word.
func (s *session) doAlone(word string) (string, error) {
	switch word {
	case "new":
		s.workspace = ""
		return done, nil
	case "check":
		return s.withWork(func(api.Work) (string, error) { return done, nil })
	case "resume":
		return s.resume()
	case "stacks":
		return s.stacks()
	case "things":
		return s.things(), nil
	case "calls":
		return strconv.Itoa(s.machine.C.Calls()), nil
	}
	return "", api.ErrText
}

// number of a line, as it is told: from 0 on, or -1.
func number(s string) (int, error) {
	n, err := strconv.Atoi(s)
	if err != nil || n < -1 || n > maxNumber || strconv.Itoa(n) != s {
		return 0, api.ErrText
	}
	return n, nil
}
