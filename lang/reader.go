package lang

import (
	"wavewright/api"
	"wavewright/lex"
	"wavewright/value"
)

// reader of tokens, one behind the other. The first error ends its reading.
type reader struct {
	left  []api.Token // those that are not read yet
	end   int         // where the text ends
	wrong int         // where the error is, once there is one
}

// readAll of a text as one thing, with nothing behind it; with an error: where it is.
func readAll[T any](s string, one func(*reader) (T, error)) (T, int, error) {
	var none T
	tokens, at, err := lex.Tokens(s)
	if err != nil {
		return none, at, err
	}
	r := &reader{left: tokens, end: len(s)}
	x, err := one(r)
	if err == nil && len(r.left) > 0 {
		err = r.fail(api.ErrText)
	}
	if err != nil {
		return none, r.wrong, err
	}
	return x, 0, nil
}

// next token, that stays to be read; one of no Kind, at the end of the text, if there is none.
func (r *reader) next() api.Token {
	if len(r.left) == 0 {
		return api.Token{At: r.end}
	}
	return r.left[0]
}

// pass the next token, that is there.
func (r *reader) pass() { r.left = r.left[1:] }

// fail: the error is at the next token.
func (r *reader) fail(err error) error { return r.failAt(r.next().At, err) }

func (r *reader) failAt(at int, err error) error {
	r.wrong = at
	return err
}

// found: is the next token this one? Then it is read.
func (r *reader) found(kind int, s string) bool {
	t := r.next()
	if t.Kind != kind || t.S != s {
		return false
	}
	r.pass()
	return true
}

// sign that has to stand there.
func (r *reader) sign(s string) error {
	if !r.found(api.Sign, s) {
		return r.fail(api.ErrText)
	}
	return nil
}

// name that has to stand there: of a token of any Kind, also a quoted one.
func (r *reader) name() (string, error) {
	t := r.next()
	if !value.Name(t.S) {
		return "", r.fail(api.ErrText)
	}
	r.pass()
	return t.S, nil
}

// row: things with ',' between, or none of them, and the sign that ends them.
func (r *reader) row(end string, one func() error) error {
	if r.found(api.Sign, end) {
		return nil
	}
	for {
		if err := one(); err != nil {
			return err
		}
		if !r.found(api.Sign, ",") {
			return r.sign(end)
		}
	}
}

// fields up to '}': their names, each above the one ahead, and what they are; at most so many.
func (r *reader) fields(most int, one func() (api.Expr, error)) (names []string, l []api.Expr, err error) {
	err = r.row("}", func() error {
		at := r.next().At
		n, err := r.name()
		switch {
		case err != nil:
			return err
		case len(names) == most:
			return r.failAt(at, api.ErrMany)
		case len(names) > 0 && n <= names[len(names)-1]:
			return r.fail(api.ErrShape)
		}
		if err := r.sign(":"); err != nil {
			return err
		}
		e, err := one()
		names, l = append(names, n), append(l, e)
		return err
	})
	return names, l, err
}

// each: the things that begin with that word, one behind the other; at most so many.
func each[T any](r *reader, word string, most int, one func() (T, error)) ([]T, error) {
	var l []T
	for {
		at := r.next().At
		if !r.found(api.Word, word) {
			return l, nil
		}
		if len(l) == most {
			return nil, r.failAt(at, api.ErrMany)
		}
		x, err := one()
		if err != nil {
			return nil, err
		}
		l = append(l, x)
	}
}
