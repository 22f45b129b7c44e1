package lang

import (
	"strings"

	"wavewright/api"
	"wavewright/value"
)

// Text of an expression.
func Text(e api.Expr) (string, error) {
	if err := Check(e); err != nil {
		return "", err
	}
	return textOf(e), nil
}

// textOf an expression that was checked.
func textOf(e api.Expr) string {
	a := texts(e.A)
	switch e.Kind {
	case api.In:
		return "in." + e.S
	case api.Of:
		return "res." + e.S + "." + e.T
	case api.From:
		return "stack." + e.S + "." + e.T
	case api.Plus:
		return "(" + a[0] + " + " + a[1] + ")"
	case api.Same:
		return "(" + a[0] + " == " + a[1] + ")"
	case api.If:
		return "(" + a[0] + " ? " + a[1] + " : " + a[2] + ")"
	case api.Items:
		return "[" + strings.Join(a, ", ") + "]"
	case api.Parts:
		return "{" + strings.Join(named(e.N, a), ", ") + "}"
	case api.Pick:
		return "get " + a[0] + " " + e.S
	}
	return valueText(e.V)
}

func texts(l []api.Expr) []string {
	var out []string
	for _, e := range l {
		out = append(out, textOf(e))
	}
	return out
}

// named: each text with its name ahead.
func named(names, texts []string) []string {
	var out []string
	for i := range names {
		out = append(out, names[i]+": "+texts[i])
	}
	return out
}

// valueText of a value that was checked.
func valueText(v api.Value) string {
	s, _ := value.Text(v)
	return s
}

// Print stacks.
func Print(l []api.Stack) (string, error) {
	if len(l) > api.MaxStacks {
		return "", api.ErrMany
	}
	var b strings.Builder
	for i := range l {
		if err := CheckStack(l[i]); err != nil {
			return "", err
		}
		printStack(&b, l[i])
	}
	if b.Len() > api.MaxWork {
		return "", api.ErrMany
	}
	return b.String(), nil
}

// printStack that was checked.
func printStack(b *strings.Builder, s api.Stack) {
	b.WriteString("stack " + s.Name + "\n")
	for _, x := range s.Inputs {
		b.WriteString("input " + x.Name + " = " + valueText(x.V) + "\n")
	}
	for _, x := range s.Resources {
		b.WriteString("resource " + x.Kind + " " + x.Name + " {" + partsText(x.Parts) + " }\n")
	}
	for _, x := range s.Outputs {
		b.WriteString("output " + x.Name + " = " + textOf(x.E) + "\n")
	}
}

// partsText: each part with a blank ahead.
func partsText(l []api.Part) string {
	var out []string
	for _, p := range l {
		out = append(out, " "+p.Name+": "+textOf(p.E))
	}
	return strings.Join(out, ",")
}
