package lex_test

import (
	"reflect"
	"strings"
	"testing"

	"wavewright/api"
	"wavewright/lex"
	"wavewright/value"
)

func word(at int, s string) api.Token   { return api.Token{Kind: api.Word, At: at, S: s} }
func digits(at int, s string) api.Token { return api.Token{Kind: api.Digits, At: at, S: s} }
func quoted(at int, s string) api.Token { return api.Token{Kind: api.Quoted, At: at, S: s} }
func sign(at int, s string) api.Token   { return api.Token{Kind: api.Sign, At: at, S: s} }

type good struct {
	s    string
	want []api.Token
}

func checkGood(t *testing.T, cases []good) {
	t.Helper()
	for _, c := range cases {
		got, at, err := lex.Tokens(c.s)
		if at != 0 || err != nil || len(got) != len(c.want) || len(got) > 0 && !reflect.DeepEqual(got, c.want) {
			t.Errorf("Tokens(%.40q) = %v, %d, %v, want %v", c.s, got, at, err, c.want)
		}
	}
}

type bad struct {
	s    string
	at   int
	want error
}

// checkBad: Z1, Z3 as well: no tokens, and a bare number.
func checkBad(t *testing.T, cases []bad) {
	t.Helper()
	for _, c := range cases {
		got, at, err := lex.Tokens(c.s)
		if len(got) != 0 || at != c.at || err != c.want {
			t.Errorf("Tokens(%.60q) = %v, %d, %v, want none, %d, %v", c.s, got, at, err, c.at, c.want)
		}
	}
}

// B1: a line of a stack.
func TestLine(t *testing.T) {
	checkGood(t, []good{
		{"resource vm one { net: stack.base.id, size: (1 + 2) } # big\noutput b = \"x\"", []api.Token{
			word(0, "resource"), word(9, "vm"), word(12, "one"), sign(16, "{"), word(18, "net"), sign(21, ":"),
			word(23, "stack"), sign(28, "."), word(29, "base"), sign(33, "."), word(34, "id"), sign(36, ","),
			word(38, "size"), sign(42, ":"), sign(44, "("), digits(45, "1"), sign(47, "+"), digits(49, "2"), sign(50, ")"), sign(52, "}"),
			word(60, "output"), word(67, "b"), sign(69, "="), quoted(71, "x")}},
	})
}

// B1: what stands between.
func TestBetween(t *testing.T) {
	checkGood(t, []good{
		{"", nil}, {" ", nil}, {"\n", nil}, {" \n \n", nil}, {"#", nil}, {"# a \" ! \t é", nil}, {"#a\n", nil}, {"##\n#", nil},
		{"a b", []api.Token{word(0, "a"), word(2, "b")}}, {"\n\na\n b\n", []api.Token{word(2, "a"), word(5, "b")}},
		{"a#b\nc", []api.Token{word(0, "a"), word(4, "c")}}, {"#x#y\n#\n c", []api.Token{word(8, "c")}},
		{"\"#\"#\"", []api.Token{quoted(0, "#")}}, {strings.Repeat(" ", api.MaxWork), nil},
	})
	checkBad(t, []bad{{"a\tb", 1, api.ErrSign}, {"\r\n", 0, api.ErrSign}, {"#x\n!", 3, api.ErrSign}, {"\x00", 0, api.ErrSign}})
}

// B1
func TestWords(t *testing.T) {
	checkGood(t, []good{
		{"a", []api.Token{word(0, "a")}}, {"z9a0", []api.Token{word(0, "z9a0")}}, {"abcdefghijkl", []api.Token{word(0, "abcdefghijkl")}},
		{"a2345678901.b", []api.Token{word(0, "a2345678901"), sign(11, "."), word(12, "b")}},
		{"null true", []api.Token{word(0, "null"), word(5, "true")}},
	})
	checkBad(t, []bad{
		{"abcdefghijklm", 0, api.ErrBound}, {"ab abcdefghijkl0", 3, api.ErrBound}, {"9a999999999999", 1, api.ErrBound},
		{strings.Repeat("a", api.MaxWork), 0, api.ErrBound},
		{"aB", 1, api.ErrSign}, {"a_b", 1, api.ErrSign}, {"A", 0, api.ErrSign}, {"`", 0, api.ErrSign},
	})
}

// B1
func TestDigits(t *testing.T) {
	checkGood(t, []good{
		{"0", []api.Token{digits(0, "0")}}, {"9", []api.Token{digits(0, "9")}}, {"10", []api.Token{digits(0, "10")}},
		{"9999999999", []api.Token{digits(0, "9999999999")}}, {"12ab", []api.Token{digits(0, "12"), word(2, "ab")}},
		{"-5", []api.Token{sign(0, "-"), digits(1, "5")}}, {"0.0", []api.Token{digits(0, "0"), sign(1, "."), digits(2, "0")}},
		{"0a", []api.Token{digits(0, "0"), word(1, "a")}}, {"0 0", []api.Token{digits(0, "0"), digits(2, "0")}},
	})
	checkBad(t, []bad{
		{"12345678901", 0, api.ErrBound}, {"x 00", 2, api.ErrBound}, {"01", 0, api.ErrBound}, {"1 007a", 2, api.ErrBound},
		{strings.Repeat("1", api.MaxWork), 0, api.ErrBound}, {strings.Repeat("0", 11), 0, api.ErrBound},
	})
}

// B1
func TestQuoted(t *testing.T) {
	long := strings.Repeat("x", api.MaxText)
	checkGood(t, []good{
		{`""`, []api.Token{quoted(0, "")}}, {`"a b"`, []api.Token{quoted(0, "a b")}}, {`"\"\\"`, []api.Token{quoted(0, `"\`)}},
		{`"\x00\x0a\xff\x41"`, []api.Token{quoted(0, "\x00\n\xffA")}}, {`" ~!#'"`, []api.Token{quoted(0, " ~!#'")}},
		{`"a""b"c`, []api.Token{quoted(0, "a"), quoted(3, "b"), word(6, "c")}}, {`"\\" "x"`, []api.Token{quoted(0, `\`), quoted(5, "x")}},
		{`"` + long + `"`, []api.Token{quoted(0, long)}},
		{`"` + strings.Repeat(`\x61`, api.MaxText) + `"`, []api.Token{quoted(0, strings.Repeat("a", api.MaxText))}},
		{`"\x411"`, []api.Token{quoted(0, "A1")}}, {`"\\x41"`, []api.Token{quoted(0, `\x41`)}},
	})
	checkBad(t, []bad{
		{`"`, 0, api.ErrSign}, {`a "b`, 2, api.ErrSign}, {`"\"`, 0, api.ErrSign}, {`"\`, 0, api.ErrSign}, {`"\q"`, 0, api.ErrSign}, {`"\n"`, 0, api.ErrSign},
		{`"\x`, 0, api.ErrSign}, {`"\x4`, 0, api.ErrSign}, {`"\x41`, 0, api.ErrSign}, {`"\x4"`, 0, api.ErrSign}, {`"\x4g"`, 0, api.ErrSign},
		{`"\xg4"`, 0, api.ErrSign}, {`"\x4A"`, 0, api.ErrSign}, {`"\xF0"`, 0, api.ErrSign}, {`"\X41"`, 0, api.ErrSign},
		{"\"a\nb\"", 0, api.ErrSign}, {"\"\x1f\"", 0, api.ErrSign}, {"\"\x7f\"", 0, api.ErrSign}, {`"é"`, 0, api.ErrSign},
		{`x"` + long + `y"`, 1, api.ErrBound}, {`"` + strings.Repeat(`\x61`, api.MaxText+1) + `"`, 0, api.ErrBound},
		{`"` + long + `y`, 0, api.ErrSign}, {`"` + long + `y\q"`, 0, api.ErrSign}, {`"` + long + "y\n\"", 0, api.ErrSign},
	})
}

// B1
func TestSigns(t *testing.T) {
	all := "={}[]():,.+?-"
	for i := range len(all) {
		checkGood(t, []good{{" " + all[i:i+1], []api.Token{sign(1, all[i:i+1])}}})
	}
	checkGood(t, []good{
		{"==", []api.Token{sign(0, "==")}}, {"===", []api.Token{sign(0, "=="), sign(2, "=")}},
		{"====", []api.Token{sign(0, "=="), sign(2, "==")}}, {"= =", []api.Token{sign(0, "="), sign(2, "=")}},
		{"--", []api.Token{sign(0, "-"), sign(1, "-")}}, {"=#\n=", []api.Token{sign(0, "="), sign(3, "=")}},
	})
}

// B1: a token may begin with no other byte.
func TestOtherBytes(t *testing.T) {
	begins := "abcdefghijklmnopqrstuvwxyz0123456789={}[]():,.+?-\"# \n"
	for b := range 256 {
		if strings.IndexByte(begins, byte(b)) < 0 {
			checkBad(t, []bad{{"a " + string([]byte{byte(b)}), 2, api.ErrSign}})
		}
	}
}

// B1: the first error is told.
func TestFirstError(t *testing.T) {
	checkBad(t, []bad{
		{"a ! 00", 2, api.ErrSign}, {"00 !", 0, api.ErrBound}, {`abcdefghijklm "`, 0, api.ErrBound}, {`" abcdefghijklm`, 0, api.ErrSign},
	})
}

// B1
func TestMany(t *testing.T) {
	var most []api.Token
	for i := range api.MaxWork {
		most = append(most, sign(i, "."))
	}
	checkGood(t, []good{{strings.Repeat(".", api.MaxWork), most}})
	checkBad(t, []bad{
		{strings.Repeat(".", api.MaxWork+1), 0, api.ErrMany}, {strings.Repeat("!", api.MaxWork+1), 0, api.ErrMany},
		{"  !" + strings.Repeat(" ", api.MaxWork), 0, api.ErrMany}, {strings.Repeat("a", 10*api.MaxWork), 0, api.ErrMany},
	})
}

// B1, A3: what is quoted is read.
func TestQuotedIsRead(t *testing.T) {
	for b := range 256 {
		s := strings.Repeat(string([]byte{byte(b), '"', '\\', 'x'}), api.MaxText/4)
		checkGood(t, []good{{value.Quote(s), []api.Token{quoted(0, s)}}})
	}
}

// Z2: what is answered is the caller's.
func TestFresh(t *testing.T) {
	first, _, _ := lex.Tokens("a b")
	first[0] = sign(7, "x")
	checkGood(t, []good{{"a b", []api.Token{word(0, "a"), word(2, "b")}}})
}

// Z3: errors are bare numbers of package api.
func TestErrorsAreBare(t *testing.T) {
	for _, s := range []string{"!", "00", strings.Repeat(" ", api.MaxWork+1)} {
		if _, _, err := lex.Tokens(s); reflect.TypeOf(err) != reflect.TypeOf(api.ErrSign) {
			t.Errorf("%T is no api.Errno", err)
		}
	}
}

// Z1: whatever bytes there are, it ends, and what it tells lies in the text.
func FuzzTokens(f *testing.F) {
	for _, s := range []string{"a == 12 \"x\\x0a\" # y\n", `"\x4`, "\"\\", "00", "\xff"} {
		f.Add(s)
	}
	f.Fuzz(func(t *testing.T, s string) {
		tokens, at, err := lex.Tokens(s)
		if at < 0 || at > len(s) || err != nil && len(tokens) > 0 || err == nil && at != 0 {
			t.Fatalf("Tokens(%q) = %v, %d, %v", s, tokens, at, err)
		}
		for i, x := range tokens {
			if x.At < 0 || x.At >= len(s) || i > 0 && x.At <= tokens[i-1].At {
				t.Fatalf("Tokens(%q) = %v", s, tokens)
			}
		}
	})
}
