package state

import (
	"strconv"
	"strings"

	"wavewright/api"
	"wavewright/eval"
	"wavewright/lang"
)

// Parse a text.
func Parse(t string) (api.State, error) {
	if len(t) > api.MaxData {
		return api.State{}, api.ErrMany
	}
	at := strings.LastIndex(t, sumWord)
	if at < 0 || t[at:] != sumLine(t[:at]) {
		return api.State{}, api.ErrSum
	}
	s, err := readLines(t[:at])
	if err != nil {
		return api.State{}, api.ErrText
	}
	// What can be read may still stand there otherwise than it is told, or be no state: then it is no state's text.
	if told, err := Text(s); err != nil || told != t {
		return api.State{}, api.ErrText
	}
	return s, nil
}

// readLines, whatever their order is, and however many there are.
func readLines(lines string) (api.State, error) {
	var s api.State
	for line := range strings.Lines(lines) {
		if err := readLine(&s, strings.TrimSuffix(line, "\n")); err != nil {
			return api.State{}, err
		}
	}
	return s, nil
}

// readLine into a state.
func readLine(s *api.State, line string) (err error) {
	word, rest, _ := strings.Cut(line, " ")
	switch word {
	case serialWord:
		s.Serial, err = strconv.Atoi(rest)
	case heldWord:
		var h api.Held
		h, err = readHeld(rest)
		s.Held = append(s.Held, h)
	case intentWord:
		var x api.Intent
		x, err = readIntent(rest)
		s.Intents = append(s.Intents, x)
	case outWord:
		var f api.Field
		f, err = readOut(rest)
		s.Outs = append(s.Outs, f)
	default:
		err = api.ErrText
	}
	return err
}

func readHeld(s string) (api.Held, error) {
	w := strings.SplitN(s, " ", 4)
	if len(w) < 4 {
		return api.Held{}, api.ErrText
	}
	id, err := strconv.Atoi(w[2])
	if err != nil {
		return api.Held{}, err
	}
	v, err := Value(w[3])
	return api.Held{Kind: w[0], Name: w[1], ID: id, Attrs: v}, err
}

func readIntent(s string) (api.Intent, error) {
	w := strings.SplitN(s, " ", 3)
	if len(w) < 3 {
		return api.Intent{}, api.ErrText
	}
	op, err := strconv.Atoi(w[0])
	if err != nil {
		return api.Intent{}, err
	}
	h, err := readHeld(w[2])
	return api.Intent{Op: op, Token: w[1], Held: h}, err
}

func readOut(s string) (api.Field, error) {
	name, rest, _ := strings.Cut(s, " ")
	v, err := Value(rest)
	return api.Field{Name: name, V: v}, err
}

// Value of a text: no names in it.
func Value(s string) (api.Value, error) {
	e, _, err := lang.Parse(s)
	if err != nil {
		return api.Value{}, err
	}
	if !written(e) {
		return api.Value{}, api.ErrText
	}
	return eval.Eval(e, eval.Env{})
}

// written: is it a value as it is written, with nothing in it to be reckoned?
func written(e api.Expr) bool {
	if e.Kind != api.Lit && e.Kind != api.Items && e.Kind != api.Parts {
		return false
	}
	for i := range e.A {
		if !written(e.A[i]) {
			return false
		}
	}
	return true
}
