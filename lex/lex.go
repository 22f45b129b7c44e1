// Package lex: signs of a text.
package lex

import (
	"strings"

	"wavewright/api"
	"wavewright/value"
)

// maxDigits of a number: as many as api.MaxNumber has.
const maxDigits = 10

// Tokens of a text; with an error: where it is.
func Tokens(s string) ([]api.Token, int, error) {
	if len(s) > api.MaxWork {
		return nil, 0, api.ErrMany
	}
	var tokens []api.Token
	next := finder(s)
	for {
		t, err := next()
		if err != nil {
			return nil, t.At, err
		}
		if t.Kind == 0 {
			return tokens, 0, nil
		}
		tokens = append(tokens, t)
	}
}

// finder: a function that finds the next token of s with each call; behind the last one, one of no Kind. With an error the token tells where it begins, and nothing more.
func finder(s string) func() (api.Token, error) {
	at := 0
	return func() (api.Token, error) {
		at += gap(s[at:])
		t, size, err := first(s[at:])
		t.At = at
		at += size
		return t, err
	}
}

// gap: how many bytes stand ahead of the first token.
func gap(s string) int {
	remark := false
	return length(s, func(b byte) bool {
		switch b {
		case '#':
			remark = true
		case '\n':
			remark = false
		}
		return remark || b == ' ' || b == '\n'
	})
}

// length: how many bytes s begins with that are such ones.
func length(s string, such func(byte) bool) int {
	for i := range len(s) {
		if !such(s[i]) {
			return i
		}
	}
	return len(s)
}

// first token of s, which begins where s does, and how many bytes it takes; one of no Kind, if s has none.
func first(s string) (api.Token, int, error) {
	switch {
	case s == "":
		return api.Token{}, 0, nil
	case value.Letter(s[0]):
		return word(s)
	case value.Digit(s[0]):
		return digits(s)
	case s[0] == '"':
		return quoted(s)
	}
	return sign(s)
}

func word(s string) (api.Token, int, error) {
	n := length(s, func(b byte) bool { return value.Letter(b) || value.Digit(b) })
	if n > api.MaxName {
		return api.Token{}, 0, api.ErrBound
	}
	return api.Token{Kind: api.Word, S: s[:n]}, n, nil
}

func digits(s string) (api.Token, int, error) {
	n := length(s, value.Digit)
	if n > maxDigits || n > 1 && s[0] == '0' {
		return api.Token{}, 0, api.ErrBound
	}
	return api.Token{Kind: api.Digits, S: s[:n]}, n, nil
}

func quoted(s string) (api.Token, int, error) {
	var text []byte
	for at := 1; at < len(s); {
		if s[at] == '"' {
			if len(text) > api.MaxText {
				return api.Token{}, 0, api.ErrBound
			}
			return api.Token{Kind: api.Quoted, S: string(text)}, at + 1, nil
		}
		b, size := unquoted(s[at:])
		if size == 0 {
			break
		}
		text = append(text, b)
		at += size
	}
	return api.Token{}, 0, api.ErrSign
}

// unquoted: the byte that the beginning of s stands for within a quoted one, and how many bytes it is written with: 0, if it may not stand there.
func unquoted(s string) (byte, int) {
	switch {
	case s[0] < 32 || s[0] > 126:
		return 0, 0
	case s[0] != '\\':
		return s[0], 1
	case len(s) > 1 && (s[1] == '"' || s[1] == '\\'):
		return s[1], 2
	case len(s) > 3 && s[1] == 'x':
		high := strings.IndexByte(value.HexDigits, s[2])
		low := strings.IndexByte(value.HexDigits, s[3])
		if high >= 0 && low >= 0 {
			return byte(16*high + low), 4
		}
	}
	return 0, 0
}

func sign(s string) (api.Token, int, error) {
	n := 1
	if strings.HasPrefix(s, "==") {
		n = 2
	} else if strings.IndexByte("={}[]():,.+?-", s[0]) < 0 {
		return api.Token{}, 0, api.ErrSign
	}
	return api.Token{Kind: api.Sign, S: s[:n]}, n, nil
}
