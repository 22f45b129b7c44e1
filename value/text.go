package value

import (
	"strconv"
	"strings"

	"wavewright/api"
)

// HexDigits: those to the base 16, each where its number is.
const HexDigits = "0123456789abcdef"

// Quote a text.
func Quote(s string) string {
	var b strings.Builder
	b.WriteByte('"')
	for i := range len(s) {
		c := s[i]
		switch {
		case c == '"' || c == '\\':
			b.WriteByte('\\')
			b.WriteByte(c)
		case c < 32 || c > 126:
			b.WriteString(`\x`)
			b.WriteByte(HexDigits[c/16])
			b.WriteByte(HexDigits[c%16])
		default:
			b.WriteByte(c)
		}
	}
	b.WriteByte('"')
	return b.String()
}

// Text of a value.
func Text(v api.Value) (string, error) {
	if err := Check(v); err != nil {
		return "", err
	}
	return textOf(v), nil
}

// Told: the text of a value that was checked, so that there is one.
func Told(v api.Value) string {
	s, _ := Text(v)
	return s
}

// textOf a value that was checked.
func textOf(v api.Value) string {
	switch v.Kind {
	case api.Num:
		return strconv.Itoa(v.N)
	case api.Text:
		return Quote(v.S)
	case api.Flag:
		return strconv.FormatBool(v.N == 1)
	case api.List:
		return "[" + strings.Join(itemTexts(v.L), ", ") + "]"
	case api.Rec:
		return "{" + strings.Join(fieldTexts(v.F), ", ") + "}"
	}
	return "null"
}

func itemTexts(l []api.Value) []string {
	var texts []string
	for _, v := range l {
		texts = append(texts, textOf(v))
	}
	return texts
}

func fieldTexts(l []api.Field) []string {
	var texts []string
	for _, f := range l {
		texts = append(texts, f.Name+": "+textOf(f.V))
	}
	return texts
}

// Sum of a text.
func Sum(s string) uint64 {
	h := uint64(14695981039346656037)
	for i := range len(s) {
		h = (h ^ uint64(s[i])) * 1099511628211
	}
	return h
}
