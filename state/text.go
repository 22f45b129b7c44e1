package state

import (
	"strconv"
	"strings"

	"wavewright/api"
	"wavewright/value"
)

// Words that lines begin with.
const (
	serialWord = "serial"
	heldWord   = "held"
	intentWord = "intent"
	outWord    = "out"
	sumWord    = "sum "
)

// Text of a state: lines, the last one with a sum of those ahead.
func Text(s api.State) (string, error) {
	if err := Check(s); err != nil {
		return "", err
	}
	lines := linesOf(s)
	return lines + sumLine(lines), nil
}

// linesOf a state that was checked, but for the sum's.
func linesOf(s api.State) string {
	var b strings.Builder
	line := func(words ...string) { b.WriteString(strings.Join(words, " ") + "\n") }
	line(serialWord, strconv.Itoa(s.Serial))
	for _, h := range s.Held {
		line(heldWord, HeldText(h))
	}
	for _, x := range s.Intents {
		line(intentWord, strconv.Itoa(x.Op), x.Token, HeldText(x.Held))
	}
	for _, f := range s.Outs {
		line(outWord, f.Name, value.Told(f.V))
	}
	return b.String()
}

// HeldText of what is held, or would be: it was checked.
func HeldText(h api.Held) string {
	return h.Kind + " " + h.Name + " " + strconv.Itoa(h.ID) + " " + value.Told(h.Attrs)
}

// sumLine behind those lines.
func sumLine(lines string) string {
	return sumWord + strconv.FormatUint(value.Sum(lines), 10) + "\n"
}
