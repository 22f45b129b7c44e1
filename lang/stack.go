package lang

import (
	"wavewright/api"
	"wavewright/value"
)

// CheckStack checks a stack by itself: its names, and how much there is.
func CheckStack(s api.Stack) error {
	if !value.Name(s.Name) {
		return api.ErrShape
	}
	if len(s.Inputs) > api.MaxItems || len(s.Resources) > api.MaxItems || len(s.Outputs) > api.MaxItems {
		return api.ErrMany
	}
	for _, x := range s.Inputs {
		if !value.Name(x.Name) || !plain(x.V) {
			return api.ErrShape
		}
	}
	for _, x := range s.Resources {
		if err := checkResource(x); err != nil {
			return err
		}
	}
	for _, x := range s.Outputs {
		if err := checkNamed(x.Name, x.E); err != nil {
			return err
		}
	}
	return nil
}

func checkResource(r api.Resource) error {
	if !value.Name(r.Kind) || !value.Name(r.Name) {
		return api.ErrShape
	}
	if len(r.Parts) > api.MaxFields {
		return api.ErrMany
	}
	for i, p := range r.Parts {
		if i > 0 && p.Name <= r.Parts[i-1].Name {
			return api.ErrShape
		}
		if err := checkNamed(p.Name, p.E); err != nil {
			return err
		}
	}
	return nil
}

func checkNamed(name string, e api.Expr) error {
	if !value.Name(name) {
		return api.ErrShape
	}
	return Check(e)
}

// Copy of a stack: its own memory.
func Copy(s api.Stack) api.Stack {
	s.Inputs = append([]api.Input(nil), s.Inputs...)
	for i := range s.Inputs {
		s.Inputs[i].V = value.Copy(s.Inputs[i].V)
	}
	s.Resources = append([]api.Resource(nil), s.Resources...)
	for i := range s.Resources {
		s.Resources[i].Parts = copyParts(s.Resources[i].Parts)
	}
	s.Outputs = append([]api.Output(nil), s.Outputs...)
	for i := range s.Outputs {
		s.Outputs[i].E = CopyExpr(s.Outputs[i].E)
	}
	return s
}

func copyParts(l []api.Part) []api.Part {
	l = append([]api.Part(nil), l...)
	for i := range l {
		l[i].E = CopyExpr(l[i].E)
	}
	return l
}
