package value_test

import (
	"reflect"
	"runtime/debug"
	"strings"
	"testing"

	"wavewright/api"
	"wavewright/value"
)

func num(n int) api.Value           { return api.Value{Kind: api.Num, N: n} }
func text(s string) api.Value       { return api.Value{Kind: api.Text, S: s} }
func flag(n int) api.Value          { return api.Value{Kind: api.Flag, N: n} }
func list(l ...api.Value) api.Value { return api.Value{Kind: api.List, L: l} }
func rec(l ...api.Field) api.Value  { return api.Value{Kind: api.Rec, F: l} }
func field(name string, v api.Value) api.Field {
	return api.Field{Name: name, V: v}
}

// nested: v within lists, so many.
func nested(v api.Value, lists int) api.Value {
	for range lists {
		v = list(v)
	}
	return v
}

// wide: a list of so many parts, itself counted.
func wide(parts int) api.Value { return list(make([]api.Value, parts-1)...) }

// endless: a list that has itself in it.
func endless() api.Value {
	l := make([]api.Value, 2)
	l[0] = list(l...)
	l[1] = list(l...)
	return list(l...)
}

// A1
func TestName(t *testing.T) {
	cases := []struct {
		s    string
		want bool
	}{
		{"a", true}, {"z", true}, {"net", true}, {"x9", true}, {"a0", true}, {"az09", true},
		{"abcdefghijkl", true}, {"a23456789012", true},
		{"", false}, {"abcdefghijklm", false}, {"9", false}, {"0a", false}, {"A", false}, {"aB", false},
		{"a b", false}, {"a_b", false}, {"a.b", false}, {"a-", false}, {"a\n", false}, {"a\x00", false},
		{"`", false}, {"{", false}, {"a/", false}, {"a:", false}, {"a`", false}, {"a{", false},
		{"é", false}, {"a\xff", false}, {strings.Repeat("a", 100000), false},
	}
	for _, c := range cases {
		if got := value.Name(c.s); got != c.want {
			t.Errorf("Name(%.20q) = %v, want %v", c.s, got, c.want)
		}
	}
}

// of names of files, and tokens
func TestDotted(t *testing.T) {
	for _, s := range []string{"a", "z", "0", "9", ".", "a.b", "state.web", "..", "0a.9"} {
		if !value.Dotted(s, 9) || !value.Dotted(s, len(s)) || value.Dotted(s, len(s)-1) {
			t.Errorf("Dotted(%q, 9), (%q, %d), (%q, %d) = %v, %v, %v", s, s, len(s), s, len(s)-1, value.Dotted(s, 9), value.Dotted(s, len(s)), value.Dotted(s, len(s)-1))
		}
	}
	for _, s := range []string{"", "A", "Z", "`", "{", "/", ":", "-", "a b", "a,b", "é", "a\n", "\x00", "a\xff", "abcdefghij"} {
		if value.Dotted(s, 9) {
			t.Errorf("Dotted(%q, 9) = true", s)
		}
	}
}

// A2
func TestCheckGood(t *testing.T) {
	cases := []api.Value{
		{}, num(0), num(7), num(-7), num(api.MaxNumber), num(-api.MaxNumber),
		text(""), text("x"), text("\x00\xff\"\\"), text(strings.Repeat("x", api.MaxText)),
		flag(0), flag(1),
		list(), list(num(1), text("a"), flag(1), api.Value{}, list(), rec()),
		rec(), rec(field("a", num(1))), rec(field("a", list()), field("a1", rec()), field("b", flag(0))),
		{Kind: api.List, L: []api.Value{}}, {Kind: api.Rec, F: []api.Field{}},
		{Kind: api.Num, L: []api.Value{}, F: []api.Field{}},
		nested(num(1), api.MaxDeep-1), nested(api.Value{}, api.MaxDeep-1), nested(list(), api.MaxDeep-1),
		wide(api.MaxParts),
	}
	for _, v := range cases {
		if err := value.Check(v); err != nil {
			t.Errorf("Check(%v) = %v, want none", v, err)
		}
	}
}

// A2
func TestCheckShape(t *testing.T) {
	cases := []api.Value{
		num(api.MaxNumber + 1), num(-api.MaxNumber - 1), num(1 << 62), num(-1 << 63),
		text(strings.Repeat("x", api.MaxText+1)),
		flag(2), flag(-1),
		{Kind: -1}, {Kind: 6}, {Kind: 1 << 62}, {Kind: -1 << 63},
		{N: 1}, {S: "a"}, {L: []api.Value{{}}}, {F: []api.Field{{Name: "a"}}},
		{Kind: api.Num, S: "a"}, {Kind: api.Num, L: []api.Value{{}}}, {Kind: api.Num, F: []api.Field{{Name: "a"}}},
		{Kind: api.Text, N: 1}, {Kind: api.Text, L: []api.Value{{}}}, {Kind: api.Text, F: []api.Field{{Name: "a"}}},
		{Kind: api.Flag, S: "a"}, {Kind: api.Flag, L: []api.Value{{}}}, {Kind: api.Flag, F: []api.Field{{Name: "a"}}},
		{Kind: api.List, N: 1}, {Kind: api.List, S: "a"}, {Kind: api.List, F: []api.Field{{Name: "a"}}},
		{Kind: api.Rec, N: 1}, {Kind: api.Rec, S: "a"}, {Kind: api.Rec, L: []api.Value{{}}},
		rec(field("", num(1))), rec(field("9", num(1))), rec(field("A", num(1))), rec(field("abcdefghijklm", num(1))),
		rec(field("b", num(1)), field("a", num(1))), rec(field("a", num(1)), field("a", num(1))),
		rec(field("a", num(1)), field("c", num(1)), field("b", num(1))),
		rec(field("b", num(1)), field("a1", num(1))), rec(field("a0", num(1)), field("a", num(1))),
		list(num(1), flag(2)), list(list(list(flag(2)))), rec(field("a", flag(2))), rec(field("a", num(1)), field("b", list(flag(2)))),
		nested(flag(2), api.MaxDeep-1),
	}
	for _, v := range cases {
		if err := value.Check(v); err != api.ErrShape {
			t.Errorf("Check(%v) = %v, want %v", v, err, api.ErrShape)
		}
	}
}

// A2: whatever else it is, parts are counted.
func TestCheckMany(t *testing.T) {
	inFields := rec()
	for range 4 {
		inFields = rec(field("a", inFields))
	}
	spread := list(wide(20), wide(20), wide(20))
	fields := rec()
	for range api.MaxParts {
		fields.F = append(fields.F, field("A", flag(9)))
	}
	cases := []api.Value{
		wide(api.MaxParts + 1), wide(100000), spread, fields,
		nested(num(1), api.MaxDeep), nested(list(), api.MaxDeep), nested(flag(2), api.MaxDeep),
		list(list(inFields)), nested(num(1), 1000000), endless(),
		{Kind: 99, N: 5, L: make([]api.Value, api.MaxParts)},
		{Kind: api.Num, N: 1, F: make([]api.Field, api.MaxParts)},
		{Kind: api.Text, L: make([]api.Value, api.MaxParts/2), F: make([]api.Field, api.MaxParts/2)},
		{L: []api.Value{nested(num(1), api.MaxDeep-1)}},
		rec(field("", nested(num(1), api.MaxDeep-1))),
	}
	for i, v := range cases {
		if err := value.Check(v); err != api.ErrMany {
			t.Errorf("case %d: Check = %v, want %v", i, err, api.ErrMany)
		}
	}
	if err := value.Check(list(inFields)); err != nil {
		t.Errorf("Check of %d in each other = %v, want none", api.MaxDeep, err)
	}
}

// A3
func TestQuote(t *testing.T) {
	cases := []struct{ s, want string }{
		{"", `""`}, {"abc", `"abc"`}, {"a b", `"a b"`}, {`"`, `"\""`}, {`\`, `"\\"`}, {`a"\b`, `"a\"\\b"`},
		{"\x00", `"\x00"`}, {"\n", `"\x0a"`}, {"\x1f ", `"\x1f "`}, {"~\x7f", `"~\x7f"`}, {"\x80\xff", `"\x80\xff"`},
		{"é", `"\xc3\xa9"`}, {"#'`", "\"#'`\""},
		{strings.Repeat("x", 1000), `"` + strings.Repeat("x", 1000) + `"`},
	}
	for _, c := range cases {
		if got := value.Quote(c.s); got != c.want {
			t.Errorf("Quote(%.20q) = %.20s, want %.20s", c.s, got, c.want)
		}
	}
}

// A3
func TestText(t *testing.T) {
	cases := []struct {
		v    api.Value
		want string
	}{
		{api.Value{}, "null"}, {num(0), "0"}, {num(12), "12"}, {num(-5), "-5"}, {num(api.MaxNumber), "1000000000"},
		{num(-api.MaxNumber), "-1000000000"}, {text(""), `""`}, {text("a\"\n"), `"a\"\x0a"`}, {flag(0), "false"}, {flag(1), "true"},
		{list(), "[]"}, {list(num(1)), "[1]"}, {list(num(1), text("x"), list()), `[1, "x", []]`},
		{rec(), "{}"}, {rec(field("a", num(1))), "{a: 1}"},
		{rec(field("a", list(num(1), text("x"))), field("b", rec(field("c", flag(1)))), field("d", api.Value{})), `{a: [1, "x"], b: {c: true}, d: null}`},
	}
	for _, c := range cases {
		got, err := value.Text(c.v)
		if got != c.want || err != nil {
			t.Errorf("Text(%v) = %s, %v, want %s", c.v, got, err, c.want)
		}
	}
}

// A3, Z1, Z3: Check's error, and no text beside it.
func TestTextWrong(t *testing.T) {
	cases := []struct {
		v    api.Value
		want error
	}{
		{flag(2), api.ErrShape}, {list(num(1), num(api.MaxNumber+1)), api.ErrShape},
		{nested(flag(2), api.MaxDeep), api.ErrMany}, {wide(api.MaxParts + 1), api.ErrMany}, {endless(), api.ErrMany},
	}
	for i, c := range cases {
		if got, err := value.Text(c.v); got != "" || err != c.want {
			t.Errorf("case %d: Text = %q, %v, want no text, %v", i, got, err, c.want)
		}
	}
}

// A4
func TestAlike(t *testing.T) {
	all := []api.Value{
		{}, num(0), num(1), num(-1), text(""), text("1"), flag(0), flag(1),
		list(), list(num(1)), list(num(2)), list(num(1), num(1)), list(list(num(1))), list(list(num(2))), list(rec()),
		rec(), rec(field("a", num(1))), rec(field("b", num(1))), rec(field("a", num(2))), rec(field("a", rec(field("a", num(1))))),
		rec(field("a", num(1)), field("b", num(1))), rec(field("b", num(1)), field("a", num(1))),
		{N: 1}, {S: "x"}, {L: []api.Value{{}}}, {F: []api.Field{{Name: "a"}}}, {Kind: 99}, {Kind: -1},
		{Kind: api.Num, N: 1, S: "x"}, {Kind: api.List, N: 1}, {Kind: api.List, F: []api.Field{{}}}, {Kind: api.Rec, L: []api.Value{{}}},
		text(strings.Repeat("x", 100)), num(1 << 40), wide(200), wide(201),
	}
	for i, a := range all {
		for j, b := range all {
			if got := value.Alike(a, b); got != (i == j) {
				t.Errorf("Alike(%v, %v) = %v, want %v", a, b, got, i == j)
			}
		}
		if !value.Alike(a, value.Copy(a)) {
			t.Errorf("%v and its copy are not alike", a)
		}
	}
	if !value.Alike(api.Value{Kind: api.List, L: []api.Value{}, F: []api.Field{}}, list()) {
		t.Error("an empty list that is not nil is another one than one that is nil")
	}
}

// A4, Z2
func TestCopy(t *testing.T) {
	fresh := func() api.Value {
		return api.Value{Kind: api.Rec, N: 3, S: "s",
			L: []api.Value{list(num(1), text("a"))},
			F: []api.Field{field("a", list(num(2))), field("a", rec(field("b", num(3)))), field("", flag(7))}}
	}
	v := fresh()
	c := value.Copy(v)
	if !reflect.DeepEqual(c, fresh()) {
		t.Fatalf("Copy = %v, want %v", c, fresh())
	}
	c.L[0].L[0] = num(9)
	c.L[0] = num(9)
	c.F[0].V.L[0] = num(9)
	c.F[1].V.F[0] = field("z", num(9))
	c.F[2] = field("z", num(9))
	if !reflect.DeepEqual(v, fresh()) {
		t.Errorf("what was copied is %v behind a change of its copy", v)
	}
}

// Z2: what stands behind a list in memory is not read, and not written into by one who appends to a copy.
func TestCopyBehind(t *testing.T) {
	l := []api.Value{num(1), num(2)}
	f := []api.Field{field("a", num(1)), field("b", num(2))}
	c := value.Copy(api.Value{L: l[:1], F: f[:1]})
	c.L = append(c.L, num(8))
	c.F = append(c.F, field("x", num(8)))
	if l[1].N != 2 || f[1].Name != "b" {
		t.Errorf("behind the lists stand %v, %v", l[1], f[1])
	}
	two := value.Copy(list(list(num(1)), list(num(2))))
	two.L[0].L = append(two.L[0].L, num(8))
	if two.L[1].L[0].N != 2 {
		t.Error("two lists of a copy share memory")
	}
}

// Z1: values may be deeper than calls in each other are let be here.
func TestDeep(t *testing.T) {
	defer debug.SetMaxStack(debug.SetMaxStack(1 << 20))
	v := nested(num(1), 200000)
	c := value.Copy(v)
	if !value.Alike(v, c) {
		t.Error("a deep value and its copy are not alike")
	}
	if value.Alike(v, nested(num(2), 200000)) || value.Alike(v, nested(num(1), 200001)) {
		t.Error("deep values that are not the same are alike")
	}
	if got, is := value.Get(rec(field("a", v)), "a"); !is || !value.Alike(got, v) {
		t.Error("a deep field is not there")
	}
	if _, err := value.Of([]api.Field{field("a", v)}); err != api.ErrMany {
		t.Errorf("Of a deep value = %v, want %v", err, api.ErrMany)
	}
}

// A4
func TestGet(t *testing.T) {
	v := rec(field("a", num(1)), field("b", list(num(2))))
	odd := api.Value{Kind: api.Num, F: []api.Field{field("b", num(1)), field("a", num(2)), field("b", num(3)), field("", num(4)), field("Z", num(5))}}
	cases := []struct {
		v    api.Value
		name string
		want api.Value
		is   bool
	}{
		{v, "a", num(1), true}, {v, "b", list(num(2)), true}, {v, "c", api.Value{}, false}, {v, "", api.Value{}, false}, {v, "A", api.Value{}, false},
		{odd, "b", num(1), true}, {odd, "a", num(2), true}, {odd, "", num(4), true}, {odd, "Z", num(5), true},
		{api.Value{}, "a", api.Value{}, false}, {list(v), "a", api.Value{}, false},
		{rec(field("x", v)), "a", api.Value{}, false}, {rec(field("n", api.Value{})), "n", api.Value{}, true},
	}
	for _, c := range cases {
		got, is := value.Get(c.v, c.name)
		if is != c.is || !value.Alike(got, c.want) {
			t.Errorf("Get(%v, %q) = %v, %v, want %v, %v", c.v, c.name, got, is, c.want, c.is)
		}
	}
}

// Z2
func TestGetFresh(t *testing.T) {
	v := rec(field("a", list(num(1))))
	got, _ := value.Get(v, "a")
	got.L[0] = num(9)
	if v.F[0].V.L[0].N != 1 {
		t.Error("what Get answers shares memory with what it was given")
	}
}

// A4
func TestOf(t *testing.T) {
	cases := []struct {
		l    []api.Field
		want api.Value
	}{
		{nil, rec()}, {[]api.Field{}, rec()}, {[]api.Field{field("a", num(1))}, rec(field("a", num(1)))},
		{[]api.Field{field("c", num(3)), field("a", num(1)), field("b", list(num(2)))}, rec(field("a", num(1)), field("b", list(num(2))), field("c", num(3)))},
		{[]api.Field{field("b", num(1)), field("a1", num(2)), field("a", num(3)), field("ab", num(4))}, rec(field("a", num(3)), field("a1", num(2)), field("ab", num(4)), field("b", num(1)))},
		{[]api.Field{field("a", nested(num(1), api.MaxDeep-2))}, rec(field("a", nested(num(1), api.MaxDeep-2)))},
		{[]api.Field{field("a", wide(api.MaxParts-1))}, rec(field("a", wide(api.MaxParts-1)))},
	}
	for _, c := range cases {
		got, err := value.Of(c.l)
		if err != nil || !value.Alike(got, c.want) {
			t.Errorf("Of(%v) = %v, %v, want %v", c.l, got, err, c.want)
		}
	}
}

// A4, Z1, Z3: a name that is there twice is told ahead of what Check says.
func TestOfWrong(t *testing.T) {
	many := make([]api.Field, 1000)
	for i := range many {
		many[i].Name = strings.Repeat("a", i)
	}
	cases := []struct {
		l    []api.Field
		want error
	}{
		{[]api.Field{field("a", num(1)), field("a", num(1))}, api.ErrExist},
		{[]api.Field{field("a", num(1)), field("b", num(1)), field("a", num(2))}, api.ErrExist},
		{[]api.Field{field("", flag(9)), field("b", wide(99)), field("", num(2))}, api.ErrExist},
		{make([]api.Field, 1000), api.ErrExist},
		{many, api.ErrMany},
		{[]api.Field{field("9", wide(api.MaxParts))}, api.ErrMany},
		{[]api.Field{field("a", nested(num(1), api.MaxDeep-1))}, api.ErrMany},
		{[]api.Field{field("a", endless())}, api.ErrMany},
		{[]api.Field{field("", num(1))}, api.ErrShape},
		{[]api.Field{field("a", num(1)), field("9", num(1))}, api.ErrShape},
		{[]api.Field{field("a", flag(2))}, api.ErrShape},
	}
	for i, c := range cases {
		got, err := value.Of(c.l)
		if err != c.want || !reflect.DeepEqual(got, api.Value{}) {
			t.Errorf("case %d: Of = %v, %v, want nothing, %v", i, got, err, c.want)
		}
	}
}

// Z2
func TestOfFresh(t *testing.T) {
	l := []api.Field{field("b", list(num(1))), field("a", num(2)), field("a", num(3))}
	got, err := value.Of(l[:2])
	if err != nil {
		t.Fatal(err)
	}
	if l[0].Name != "b" || l[1].Name != "a" || l[2].V.N != 3 {
		t.Errorf("Of wrote into what it was given: %v", l)
	}
	got.F[1].V.L[0] = num(9)
	got.F = append(got.F, field("x", num(9)))
	if l[0].V.L[0].N != 1 || l[2].V.N != 3 {
		t.Errorf("what Of answers shares memory with what it was given: %v", l)
	}
}

// A4
func TestSum(t *testing.T) {
	cases := []struct {
		s    string
		want uint64
	}{
		{"", 14695981039346656037}, {"a", 0xaf63dc4c8601ec8c}, {"foobar", 0x85944171f73967e8},
		{"\x00", 0xaf63bd4c8601b7df}, {"\xff", 0xaf64724c8602eb6e},
	}
	for _, c := range cases {
		if got := value.Sum(c.s); got != c.want {
			t.Errorf("Sum(%q) = %d, want %d", c.s, got, c.want)
		}
	}
}

// Z3: errors are bare numbers of package api.
func TestErrorsAreBare(t *testing.T) {
	for _, v := range []api.Value{flag(2), wide(api.MaxParts + 1)} {
		_, textErr := value.Text(v)
		_, ofErr := value.Of([]api.Field{field("a", v)})
		for _, err := range []error{value.Check(v), textErr, ofErr} {
			if _, is := err.(api.Errno); !is {
				t.Errorf("%T is no api.Errno", err)
			}
		}
	}
}
