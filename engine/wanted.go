package engine

import (
	"iter"
	"slices"
	"strings"

	"wavewright/api"
	"wavewright/eval"
	"wavewright/value"
)

// idField: what a resource's number is called.
const idField = "id"

// envOf a stack: what its expressions may name; its resources, once they are there.
func envOf(s api.Stack, from map[string]map[string]api.Value) eval.Env {
	env := eval.Env{In: map[string]api.Value{}, Res: map[string]api.Value{}, From: from}
	for _, x := range s.Inputs {
		env.In[x.Name] = x.V
	}
	return env
}

// attributes of a resource: the record of its parts.
func attributes(r api.Resource, env eval.Env) (api.Value, error) {
	var l []api.Field
	for _, p := range r.Parts {
		v, err := eval.Eval(p.E, env)
		if err != nil {
			return api.Value{}, err
		}
		l = append(l, api.Field{Name: p.Name, V: v})
	}
	return value.Of(l)
}

// outputs of a stack, by rising names.
func outputs(s api.Stack, env eval.Env) ([]api.Field, error) {
	var l []api.Field
	for _, o := range s.Outputs {
		v, err := eval.Eval(o.E, env)
		if err != nil {
			return nil, err
		}
		l = append(l, api.Field{Name: o.Name, V: v})
	}
	slices.SortFunc(l, func(a, b api.Field) int { return strings.Compare(a.Name, b.Name) })
	return l, nil
}

// numbered: attributes, as they are named: with the number in the place of a field that is called as it is.
func numbered(attrs api.Value, id int) api.Value {
	f := api.Field{Name: idField, V: api.Value{Kind: api.Num, N: id}}
	at, is := slices.BinarySearchFunc(attrs.F, idField, func(x api.Field, name string) int { return strings.Compare(x.Name, name) })
	behind := at
	if is {
		behind++
	}
	return api.Value{Kind: api.Rec, F: slices.Concat(attrs.F[:at], []api.Field{f}, attrs.F[behind:])}
}

// wantedOf what is held, so that this is; a new one has no number yet.
func wantedOf(held []api.Held, h api.Held) []api.Change {
	at, is := find(held, h.Name)
	if !is {
		return []api.Change{{Op: api.Create, Held: h}}
	}
	was := held[at]
	if was.Kind != h.Kind {
		return []api.Change{{Op: api.Delete, Held: was}, {Op: api.Create, Held: h}}
	}
	if !value.Alike(was.Attrs, h.Attrs) {
		h.ID = was.ID
		return []api.Change{{Op: api.Update, Held: h}}
	}
	return nil
}

// unwanted of those that are held, the greatest name first.
func unwanted(held []api.Held, wanted func(name string) bool) iter.Seq[api.Held] {
	return func(yield func(api.Held) bool) {
		for _, h := range slices.Backward(held) {
			if !wanted(h.Name) && !yield(h) {
				return
			}
		}
	}
}

// find what is held of that name: where it is, or would be.
func find(held []api.Held, name string) (int, bool) {
	return slices.BinarySearchFunc(held, name, func(h api.Held, name string) int { return strings.Compare(h.Name, name) })
}

// numberOf what is held of that name; 0: nothing is.
func numberOf(held []api.Held, name string) int {
	at, is := find(held, name)
	if !is {
		return 0
	}
	return held[at].ID
}

// with that one held, in the place of another one of its name. (The list stays as it is for those who are going over it.)
func with(held []api.Held, h api.Held) []api.Held {
	held = without(held, h.Name)
	at, _ := find(held, h.Name)
	return slices.Insert(held, at, h)
}

// without what is held of that name. (The list stays as it is for those who are going over it.)
func without(held []api.Held, name string) []api.Held {
	return slices.DeleteFunc(slices.Clone(held), func(h api.Held) bool { return h.Name == name })
}
