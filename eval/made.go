package eval

import (
	"slices"

	"wavewright/api"
	"wavewright/value"
)

// counted: is its Kind one, and are there as many in A, and in N, as that wants? (Where it has no use for them, what is there is left alone.)
func (o *open) counted() bool {
	switch o.e.Kind {
	case api.Lit, api.In, api.Of, api.From, api.Items:
		return true
	case api.Plus, api.Same:
		return len(o.e.A) == 2
	case api.If:
		return len(o.e.A) == 3
	case api.Parts:
		return len(o.e.A) == len(o.e.N)
	case api.Pick:
		return len(o.e.A) == 1
	}
	return false
}

// made: what it is, now that all is known that it is made of. It may share memory with that.
func (o *open) made(env Env) (api.Value, error) {
	e := o.e
	if !o.counted() {
		return api.Value{}, api.ErrShape
	}
	switch e.Kind {
	case api.Lit:
		return e.V, nil
	case api.In:
		return named(env.In, e.S)
	case api.Of:
		return fieldOf(env.Res[e.S], e.T)
	case api.From:
		return named(env.From[e.S], e.T)
	case api.Plus:
		return plus(o.got[0], o.got[1])
	case api.Same:
		return flag(value.Alike(o.got[0], o.got[1])), nil
	case api.If:
		return o.got[1], nil
	case api.Items:
		return api.Value{Kind: api.List, L: o.got}, nil
	case api.Parts:
		return record(e.N, o.got), nil
	}
	return pick(o.got[0], e.S)
}

// named so: what it is.
func named(m map[string]api.Value, name string) (api.Value, error) {
	v, ok := m[name]
	if !ok {
		return api.Value{}, api.ErrNone
	}
	return v, nil
}

// fieldOf a record: what it is. (One that is not there has none.)
func fieldOf(v api.Value, name string) (api.Value, error) {
	i := value.Find(v.F, name)
	if i < 0 {
		return api.Value{}, api.ErrNone
	}
	return v.F[i].V, nil
}

// plus: both as one.
func plus(a, b api.Value) (api.Value, error) {
	if a.Kind != b.Kind {
		return api.Value{}, api.ErrKind
	}
	switch a.Kind {
	case api.Num:
		return number(a.N + b.N)
	case api.Text:
		return text(a.S + b.S)
	case api.List:
		return api.Value{Kind: api.List, L: slices.Concat(a.L, b.L)}, nil
	}
	return api.Value{}, api.ErrKind
}

func number(n int) (api.Value, error) {
	if n < -api.MaxNumber || n > api.MaxNumber {
		return api.Value{}, api.ErrBound
	}
	return api.Value{Kind: api.Num, N: n}, nil
}

func text(s string) (api.Value, error) {
	if len(s) > api.MaxText {
		return api.Value{}, api.ErrBound
	}
	return api.Value{Kind: api.Text, S: s}, nil
}

func flag(is bool) api.Value {
	v := api.Value{Kind: api.Flag}
	if is {
		v.N = 1
	}
	return v
}

// record of those fields, of as many names.
func record(names []string, l []api.Value) api.Value {
	v := api.Value{Kind: api.Rec}
	for i := range l {
		v.F = append(v.F, api.Field{Name: names[i], V: l[i]})
	}
	return v
}

// pick a field of what must be a record.
func pick(v api.Value, name string) (api.Value, error) {
	if v.Kind != api.Rec {
		return api.Value{}, api.ErrKind
	}
	return fieldOf(v, name)
}
