package lang

import (
	"strconv"

	"wavewright/api"
)

// Parse an expression; with an error: where it is.
func Parse(s string) (api.Expr, int, error) {
	return readAll(s, func(r *reader) (api.Expr, error) { return r.whole() })
}

// whole expression, that is in no other one, checked.
func (r *reader) whole() (api.Expr, error) {
	at := r.next().At
	e, err := r.expression(1)
	if err != nil {
		return api.Expr{}, err
	}
	if err := Check(e); err != nil {
		return api.Expr{}, r.failAt(at, err)
	}
	return e, nil
}

// expression that is the one number deep of those in each other.
func (r *reader) expression(deep int) (api.Expr, error) {
	kind, err := beginning(r.next())
	if err == nil && deep > api.MaxDeep {
		err = api.ErrMany
	}
	if err != nil {
		return api.Expr{}, r.fail(err)
	}
	if kind == api.Lit {
		return r.literal()
	}
	r.pass()
	inner := func() (api.Expr, error) { return r.expression(deep + 1) }
	switch kind {
	case api.In:
		s, err := r.nameBehindDot()
		return api.Expr{Kind: api.In, S: s}, err
	case api.Of, api.From:
		return r.twoNames(kind)
	case api.Pick:
		return r.pick(inner)
	case api.Items:
		return r.items(inner)
	case api.Parts:
		// A text has fewer tokens than that: of too many Check tells.
		n, a, err := r.fields(api.MaxWork, inner)
		return api.Expr{Kind: api.Parts, N: n, A: a}, err
	}
	return r.group(inner)
}

// grouped: two or three in '(' and ')', of a Kind that the sign behind the first one tells.
const grouped = -1

// beginning: the Kind of the expression that begins with t; what is wrong with t, if none does.
func beginning(t api.Token) (int, error) {
	kind := 0
	switch t.Kind {
	case api.Digits:
		_, err := number(t.S, 0)
		return api.Lit, err
	case api.Quoted:
		return api.Lit, nil
	case api.Word:
		words := map[string]int{
			"null": api.Lit, "true": api.Lit, "false": api.Lit,
			"in": api.In, "res": api.Of, "stack": api.From, "get": api.Pick,
		}
		kind = words[t.S]
	case api.Sign:
		signs := map[string]int{"-": api.Lit, "[": api.Items, "{": api.Parts, "(": grouped}
		kind = signs[t.S]
	}
	if kind == 0 {
		return 0, api.ErrText
	}
	return kind, nil
}

// number that these digits are, from least on.
func number(digits string, least int) (int, error) {
	n, err := strconv.Atoi(digits)
	if err != nil || n < least || n > api.MaxNumber {
		return 0, api.ErrBound
	}
	return n, nil
}

func (r *reader) literal() (api.Expr, error) {
	v, err := r.plainValue()
	return api.Expr{Kind: api.Lit, V: v}, err
}

// plainValue: one that begins with the next token.
func (r *reader) plainValue() (api.Value, error) {
	t := r.next()
	if t.Kind == api.Digits {
		n, err := r.number(0)
		return api.Value{Kind: api.Num, N: n}, err
	}
	r.pass()
	switch {
	case t.Kind == api.Quoted:
		return api.Value{Kind: api.Text, S: t.S}, nil
	case t.S == "true":
		return api.Value{Kind: api.Flag, N: 1}, nil
	case t.S == "false":
		return api.Value{Kind: api.Flag}, nil
	case t.S == "-":
		n, err := r.number(1)
		return api.Value{Kind: api.Num, N: -n}, err
	}
	return api.Value{}, nil
}

// number that has to stand there, from least on.
func (r *reader) number(least int) (int, error) {
	t := r.next()
	if t.Kind != api.Digits {
		return 0, r.fail(api.ErrText)
	}
	n, err := number(t.S, least)
	if err != nil {
		return 0, r.fail(err)
	}
	r.pass()
	return n, nil
}

func (r *reader) nameBehindDot() (string, error) {
	if err := r.sign("."); err != nil {
		return "", err
	}
	return r.name()
}

func (r *reader) twoNames(kind int) (api.Expr, error) {
	s, err := r.nameBehindDot()
	if err != nil {
		return api.Expr{}, err
	}
	t, err := r.nameBehindDot()
	return api.Expr{Kind: kind, S: s, T: t}, err
}

func (r *reader) pick(inner func() (api.Expr, error)) (api.Expr, error) {
	a, err := inner()
	if err != nil {
		return api.Expr{}, err
	}
	s, err := r.name()
	return api.Expr{Kind: api.Pick, S: s, A: []api.Expr{a}}, err
}

func (r *reader) items(inner func() (api.Expr, error)) (api.Expr, error) {
	e := api.Expr{Kind: api.Items}
	err := r.row("]", func() error {
		a, err := inner()
		e.A = append(e.A, a)
		return err
	})
	return e, err
}

func (r *reader) group(inner func() (api.Expr, error)) (api.Expr, error) {
	a, err := inner()
	if err != nil {
		return api.Expr{}, err
	}
	if r.found(api.Sign, "?") {
		return r.choice(a, inner)
	}
	kind, err := r.signOfTwo()
	if err != nil {
		return api.Expr{}, err
	}
	b, err := inner()
	if err != nil {
		return api.Expr{}, err
	}
	return api.Expr{Kind: kind, A: []api.Expr{a, b}}, r.sign(")")
}

// signOfTwo that has to stand there: the Kind that it makes of what stands on both sides of it.
func (r *reader) signOfTwo() (int, error) {
	signs := map[string]int{"+": api.Plus, "==": api.Same}
	t := r.next()
	kind, is := signs[t.S]
	if !is || t.Kind != api.Sign {
		return 0, r.fail(api.ErrText)
	}
	r.pass()
	return kind, nil
}

// choice by what stood ahead of '?'.
func (r *reader) choice(by api.Expr, inner func() (api.Expr, error)) (api.Expr, error) {
	yes, err := inner()
	if err != nil {
		return api.Expr{}, err
	}
	if err := r.sign(":"); err != nil {
		return api.Expr{}, err
	}
	no, err := inner()
	if err != nil {
		return api.Expr{}, err
	}
	return api.Expr{Kind: api.If, A: []api.Expr{by, yes, no}}, r.sign(")")
}
