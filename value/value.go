// Package value: values, and their texts.
package value

import (
	"slices"
	"strings"

	"wavewright/api"
)

// Letter: is it one of a to z?
func Letter(b byte) bool { return 'a' <= b && b <= 'z' }

// Digit: is it one of 0 to 9?
func Digit(b byte) bool { return '0' <= b && b <= '9' }

// Name: may something be called so?
func Name(s string) bool {
	if len(s) == 0 || len(s) > api.MaxName {
		return false
	}
	for i := range len(s) {
		if !Letter(s[i]) && (i == 0 || !Digit(s[i])) {
			return false
		}
	}
	return true
}

// Dotted: is it 1 to most bytes, each of them a letter, a digit or '.'?
func Dotted(s string, most int) bool {
	if len(s) == 0 || len(s) > most {
		return false
	}
	for i := range len(s) {
		if !Letter(s[i]) && !Digit(s[i]) && s[i] != '.' {
			return false
		}
	}
	return true
}

// Check a value.
func Check(v api.Value) error {
	if roomLeft(v, 1, api.MaxParts) < 0 {
		return api.ErrMany
	}
	if !shaped(v) {
		return api.ErrShape
	}
	return nil
}

// roomLeft: of room parts those that are left behind v, which is the value number deep of those in each other; below 0: there is not enough, or it is too deep.
// It ends with the first part too much, so that neither a great value nor one that has itself in it is gone through.
func roomLeft(v api.Value, deep, room int) int {
	if deep > api.MaxDeep {
		return -1
	}
	room--
	for i := 0; i < len(v.L) && room >= 0; i++ {
		room = roomLeft(v.L[i], deep+1, room)
	}
	for i := 0; i < len(v.F) && room >= 0; i++ {
		room = roomLeft(v.F[i].V, deep+1, room)
	}
	return room
}

// shaped: is it a value, and all in it? It goes as deep as v does: ask for its room ahead.
func shaped(v api.Value) bool {
	if !spareZero(v) || !contentFits(v) {
		return false
	}
	for i := range v.L {
		if !shaped(v.L[i]) {
			return false
		}
	}
	for i := range v.F {
		if !shaped(v.F[i].V) {
			return false
		}
	}
	return true
}

// spareZero: have all fields their zero value that its Kind has no use for?
func spareZero(v api.Value) bool {
	return (v.N == 0 || v.Kind == api.Num || v.Kind == api.Flag) &&
		(v.S == "" || v.Kind == api.Text) &&
		(len(v.L) == 0 || v.Kind == api.List) &&
		(len(v.F) == 0 || v.Kind == api.Rec)
}

// contentFits: is its Kind one, and what that has use for within its bounds? (Nothing is asked of the values in it.)
func contentFits(v api.Value) bool {
	switch v.Kind {
	case api.Null, api.List:
		return true
	case api.Num:
		return -api.MaxNumber <= v.N && v.N <= api.MaxNumber
	case api.Text:
		return len(v.S) <= api.MaxText
	case api.Flag:
		return v.N == 0 || v.N == 1
	case api.Rec:
		return namesRise(v.F)
	}
	return false
}

// namesRise: are these names, each above the one ahead?
func namesRise(l []api.Field) bool {
	for i := range l {
		if !Name(l[i].Name) || i > 0 && l[i].Name <= l[i-1].Name {
			return false
		}
	}
	return true
}

// pair of values that are to be held against each other.
type pair struct{ a, b *api.Value }

// Alike: are two values the same?
// What is still to be looked at stands in a list, for a value may be deeper than calls can be in each other.
func Alike(a, b api.Value) bool {
	todo := []pair{{&a, &b}}
	for len(todo) > 0 {
		p := todo[len(todo)-1]
		todo = todo[:len(todo)-1]
		if !alikeAbove(p.a, p.b) {
			return false
		}
		for i := range p.a.L {
			todo = append(todo, pair{&p.a.L[i], &p.b.L[i]})
		}
		for i := range p.a.F {
			todo = append(todo, pair{&p.a.F[i].V, &p.b.F[i].V})
		}
	}
	return true
}

// alikeAbove: are they the same, but for the values in them?
func alikeAbove(a, b *api.Value) bool {
	if a.Kind != b.Kind || a.N != b.N || a.S != b.S || len(a.L) != len(b.L) || len(a.F) != len(b.F) {
		return false
	}
	for i := range a.F {
		if a.F[i].Name != b.F[i].Name {
			return false
		}
	}
	return true
}

// Copy of a value: its own memory.
// What still shares its lists stands in a list, for a value may be deeper than calls can be in each other.
func Copy(v api.Value) api.Value {
	todo := []*api.Value{&v}
	for len(todo) > 0 {
		w := todo[len(todo)-1]
		todo = todo[:len(todo)-1]
		w.L = append([]api.Value(nil), w.L...)
		w.F = append([]api.Field(nil), w.F...)
		for i := range w.L {
			todo = append(todo, &w.L[i])
		}
		for i := range w.F {
			todo = append(todo, &w.F[i].V)
		}
	}
	return v
}

// Get a field of a record.
func Get(v api.Value, name string) (api.Value, bool) {
	i := Find(v.F, name)
	if i < 0 {
		return api.Value{}, false
	}
	return Copy(v.F[i].V), true
}

// Find the first field of that name: where it is, or -1. (For those who look at it alone, and want no copy.)
func Find(l []api.Field, name string) int {
	return slices.IndexFunc(l, func(f api.Field) bool { return f.Name == name })
}

// Of fields in any order: the record; an error, if it may not be.
func Of(l []api.Field) (api.Value, error) {
	v := api.Value{Kind: api.Rec, F: append([]api.Field(nil), l...)}
	slices.SortFunc(v.F, func(a, b api.Field) int { return strings.Compare(a.Name, b.Name) })
	for i := 1; i < len(v.F); i++ {
		if v.F[i].Name == v.F[i-1].Name {
			return api.Value{}, api.ErrExist
		}
	}
	if err := Check(v); err != nil {
		return api.Value{}, err
	}
	return Copy(v), nil
}
