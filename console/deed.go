package console

import (
	"strconv"
	"strings"

	"wavewright/api"
	"wavewright/eval"
	"wavewright/lang"
	"wavewright/locks"
	"wavewright/state"
	"wavewright/value"
)

// done: the answer to a line that just does something.
const done = "ok"

// add a text to the workspace, as a line of its own.
func (s *session) add(text string) (string, error) {
	longer := s.workspace + text + "\n"
	if len(longer) > api.MaxWork {
		return "", api.ErrMany
	}
	s.workspace = longer
	return done, nil
}

// evaluate an expression in which nothing may be named. Where it can't be read, is part of the answer.
func evaluate(text string) (string, error) {
	e, at, err := lang.Parse(text)
	if err != nil {
		return errorText(err) + " at " + strconv.Itoa(at), nil
	}
	v, err := eval.Eval(e, eval.Env{})
	if err != nil {
		return "", err
	}
	return value.Text(v)
}

// spoil a thing: its number, a blank, and the text of what it has then.
func (s *session) spoil(rest string) (string, error) {
	id, text, _ := strings.Cut(rest, " ")
	n, err := number(id)
	if err != nil {
		return "", err
	}
	v, err := state.Value(text)
	if err != nil {
		return "", err
	}
	s.machine.C.Spoil(n, v)
	return done, nil
}

func (s *session) deploy(names []string) (string, error) {
	return s.withWork(func(w api.Work) (string, error) { return done, s.coord.Deploy(w, names) })
}

func (s *session) destroy(names []string) (string, error) {
	return s.withWork(func(w api.Work) (string, error) { return done, s.coord.Destroy(w, names) })
}

func (s *session) resume() (string, error) {
	return s.withWork(func(w api.Work) (string, error) {
		was, err := s.coord.Resume(w)
		return strconv.FormatBool(was), err
	})
}

func (s *session) plan(name string) (string, error) {
	return s.withWork(func(w api.Work) (string, error) {
		l, err := s.coord.Plan(w, name)
		return orDash(each(l, changeText), apart), err
	})
}

func (s *session) state(name string) (string, error) {
	has, err := state.Load(s.machine.D, name)
	if err != nil {
		return "", err
	}
	return stateText(has), nil
}

func (s *session) stacks() (string, error) {
	names, err := s.coord.Deployed()
	return orDash(names, " "), err
}

func (s *session) things() string { return orDash(each(s.machine.C.All(), thingText), apart) }

func (s *session) steal(names []string) (string, error) {
	return done, locks.Take(s.machine.D, other, names, alive)
}

func (s *session) yield(names []string) (string, error) {
	return done, locks.Give(s.machine.D, other, names)
}

// restart the disk, behind a fall or not, and begin with what is kept.
func (s *session) restart(keep, torn string) (string, error) {
	k, err := number(keep)
	if err != nil {
		return "", err
	}
	t, err := number(torn)
	if err != nil {
		return "", err
	}
	s.machine.D.Restart(k, t)
	return done, s.open()
}
