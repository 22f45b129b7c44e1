package console

import (
	"slices"
	"strconv"
	"strings"

	"wavewright/api"
	"wavewright/state"
	"wavewright/value"
)

// apart: what stands between several things that are told.
const apart = "; "

// changeNames by operations.
var changeNames = [...]string{api.Create: "create", api.Update: "update", api.Delete: "delete"}

func changeText(c api.Change) string { return changeNames[c.Op] + " " + state.HeldText(c.Held) }

// intentText: it is told as the change that it will be.
func intentText(x api.Intent) string { return changeText(api.Change{Op: x.Op, Held: x.Held}) }

func outText(f api.Field) string { return f.Name + " = " + value.Told(f.V) }

func thingText(t api.Thing) string {
	return strconv.Itoa(t.ID) + " " + t.Kind + " " + value.Told(t.Attrs)
}

func stateText(s api.State) string {
	l := slices.Concat([]string{strconv.Itoa(s.Serial)}, each(s.Held, state.HeldText), each(s.Intents, intentText), each(s.Outs, outText))
	return strings.Join(l, apart)
}

// each of them told.
func each[T any](l []T, tell func(T) string) []string {
	var texts []string
	for _, x := range l {
		texts = append(texts, tell(x))
	}
	return texts
}

// orDash: the texts with that between, or a dash, if there are none.
func orDash(l []string, between string) string {
	if len(l) == 0 {
		return "-"
	}
	return strings.Join(l, between)
}
