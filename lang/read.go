package lang

import "wavewright/api"

// Read stacks; with an error: where it is.
func Read(s string) ([]api.Stack, int, error) {
	return readAll(s, func(r *reader) ([]api.Stack, error) {
		return each(r, "stack", api.MaxStacks, r.stack)
	})
}

// stack behind its word.
func (r *reader) stack() (api.Stack, error) {
	var s api.Stack
	var err error
	if s.Name, err = r.name(); err != nil {
		return s, err
	}
	if s.Inputs, err = each(r, "input", api.MaxItems, r.input); err != nil {
		return s, err
	}
	if s.Resources, err = each(r, "resource", api.MaxItems, r.resource); err != nil {
		return s, err
	}
	s.Outputs, err = each(r, "output", api.MaxItems, r.output)
	return s, err
}

func (r *reader) input() (api.Input, error) {
	name, err := r.nameAndEquals()
	if err != nil {
		return api.Input{}, err
	}
	at := r.next().At
	e, err := r.whole()
	if err == nil && e.Kind != api.Lit {
		err = r.failAt(at, api.ErrText)
	}
	return api.Input{Name: name, V: e.V}, err
}

func (r *reader) output() (api.Output, error) {
	name, err := r.nameAndEquals()
	if err != nil {
		return api.Output{}, err
	}
	e, err := r.whole()
	return api.Output{Name: name, E: e}, err
}

func (r *reader) nameAndEquals() (string, error) {
	name, err := r.name()
	if err != nil {
		return "", err
	}
	return name, r.sign("=")
}

func (r *reader) resource() (api.Resource, error) {
	kind, err := r.name()
	if err != nil {
		return api.Resource{}, err
	}
	name, err := r.name()
	if err != nil {
		return api.Resource{}, err
	}
	if err := r.sign("{"); err != nil {
		return api.Resource{}, err
	}
	names, l, err := r.fields(api.MaxFields, r.whole)
	return api.Resource{Kind: kind, Name: name, Parts: partsOf(names, l)}, err
}

func partsOf(names []string, l []api.Expr) []api.Part {
	var parts []api.Part
	for i := range names {
		parts = append(parts, api.Part{Name: names[i], E: l[i]})
	}
	return parts
}
