package lang_test

import (
	"reflect"
	"runtime/debug"
	"strings"
	"testing"

	"wavewright/api"
	"wavewright/lang"
)

func num(n int) api.Value     { return api.Value{Kind: api.Num, N: n} }
func text(s string) api.Value { return api.Value{Kind: api.Text, S: s} }
func flag(n int) api.Value    { return api.Value{Kind: api.Flag, N: n} }

func lit(v api.Value) api.Expr         { return api.Expr{Kind: api.Lit, V: v} }
func in(s string) api.Expr             { return api.Expr{Kind: api.In, S: s} }
func of(s, t string) api.Expr          { return api.Expr{Kind: api.Of, S: s, T: t} }
func from(s, t string) api.Expr        { return api.Expr{Kind: api.From, S: s, T: t} }
func plus(a, b api.Expr) api.Expr      { return api.Expr{Kind: api.Plus, A: []api.Expr{a, b}} }
func same(a, b api.Expr) api.Expr      { return api.Expr{Kind: api.Same, A: []api.Expr{a, b}} }
func choice(a, b, c api.Expr) api.Expr { return api.Expr{Kind: api.If, A: []api.Expr{a, b, c}} }
func items(l ...api.Expr) api.Expr     { return api.Expr{Kind: api.Items, A: l} }
func pick(a api.Expr, s string) api.Expr {
	return api.Expr{Kind: api.Pick, S: s, A: []api.Expr{a}}
}

// parts: the names with blanks between.
func parts(names string, l ...api.Expr) api.Expr {
	return api.Expr{Kind: api.Parts, N: strings.Fields(names), A: l}
}

func one() api.Expr { return lit(num(1)) }

// nested: e within lists, so many.
func nested(e api.Expr, lists int) api.Expr {
	for range lists {
		e = items(e)
	}
	return e
}

// ones, so many.
func ones(count int) []api.Expr {
	l := make([]api.Expr, count)
	for i := range l {
		l[i] = one()
	}
	return l
}

// endless: a list that has itself in it.
func endless() api.Expr {
	l := make([]api.Expr, 2)
	l[0], l[1] = items(l...), items(l...)
	return items(l...)
}

// alike: are they the same, whether an empty list is nil or not?
func alike(a, b api.Expr) bool {
	if a.Kind != b.Kind || a.S != b.S || a.T != b.T || len(a.A) != len(b.A) || strings.Join(a.N, " ") != strings.Join(b.N, " ") {
		return false
	}
	for i := range a.A {
		if !alike(a.A[i], b.A[i]) {
			return false
		}
	}
	return reflect.DeepEqual(a.V, b.V)
}

type written struct {
	s string
	e api.Expr
}

// writtenExprs: expressions of every Kind, with their texts.
func writtenExprs() []written {
	long := strings.Repeat("x", api.MaxText)
	return []written{
		{"null", lit(api.Value{})}, {"true", lit(flag(1))}, {"false", lit(flag(0))},
		{"0", lit(num(0))}, {"7", lit(num(7))}, {"-1", lit(num(-1))}, {"-5", lit(num(-5))}, {"1000000000", lit(num(api.MaxNumber))}, {"-1000000000", lit(num(-api.MaxNumber))},
		{`""`, lit(text(""))}, {`"a b"`, lit(text("a b"))}, {`"\"\\\x0a"`, lit(text("\"\\\n"))}, {`"` + long + `"`, lit(text(long))}, {`"null"`, lit(text("null"))}, {`"("`, lit(text("("))},
		{"in.a", in("a")}, {"in.abcdefghijkl", in("abcdefghijkl")}, {"in.in", in("in")},
		{"res.one.id", of("one", "id")}, {"res.res.null", of("res", "null")}, {"stack.base.id", from("base", "id")}, {"stack.stack.x9", from("stack", "x9")},
		{"(1 + -2)", plus(one(), lit(num(-2)))}, {"(in.a == \"x\")", same(in("a"), lit(text("x")))}, {"(true ? 1 : null)", choice(lit(flag(1)), one(), lit(api.Value{}))},
		{"((1 + 1) + (1 == 1))", plus(plus(one(), one()), same(one(), one()))},
		{"[]", items()}, {"[1]", items(one())}, {"[1, in.b, []]", items(one(), in("b"), items())},
		{"{}", parts("")}, {"{a: 1}", parts("a", one())}, {"{a: 1, a1: [], b: {get: in.c}}", parts("a a1 b", one(), items(), parts("get", in("c")))},
		{"get {a: 1} a", pick(parts("a", one()), "a")}, {"get get res.a.b c stack", pick(pick(of("a", "b"), "c"), "stack")}, {"get null get", pick(lit(api.Value{}), "get")},
		{"[[[[[1]]]]]", nested(one(), api.MaxDeep-1)}, {"[[[[[[]]]]]]", nested(items(), api.MaxDeep-1)},
		{"[1" + strings.Repeat(", 1", api.MaxParts-2) + "]", items(ones(api.MaxParts - 1)...)},
	}
}

// C1
func TestCheckGood(t *testing.T) {
	for _, c := range writtenExprs() {
		if err := lang.Check(c.e); err != nil {
			t.Errorf("Check of %s = %v, want none", c.s, err)
		}
	}
	bare := api.Expr{Kind: api.In, S: "a", V: api.Value{L: []api.Value{}, F: []api.Field{}}, A: []api.Expr{}, N: []string{}}
	if err := lang.Check(bare); err != nil {
		t.Errorf("Check with empty lists that are not nil = %v, want none", err)
	}
}

// wrongLits: what may not stand in a Lit.
func wrongLits() []api.Value {
	return []api.Value{
		{Kind: api.List}, {Kind: api.Rec}, {Kind: api.List, L: []api.Value{num(1)}}, {Kind: api.Rec, F: []api.Field{{Name: "a"}}},
		{Kind: 6}, {Kind: -1}, {N: 1}, {S: "a"}, {L: []api.Value{{}}}, {F: []api.Field{{Name: "a"}}},
		num(api.MaxNumber + 1), num(-api.MaxNumber - 1), text(strings.Repeat("x", api.MaxText+1)), flag(2), flag(-1),
		{Kind: api.Num, L: make([]api.Value, 100)}, {Kind: api.Text, N: 1},
	}
}

// C1: a Kind with what it has use for is one; with anything else, or with less, it is none.
func TestCheckShape(t *testing.T) {
	cases := []api.Expr{
		{}, {Kind: -1}, {Kind: 11}, {Kind: 99}, {Kind: -1 << 63}, {Kind: 1 << 62},
		in(""), in("A"), in("9"), in("abcdefghijklm"), of("", "a"), of("a", ""), of("A", "a"), of("a", "B"), from("", "a"), from("a", ""), from("a b", "a"), from("a", "-"),
		{Kind: api.Plus}, {Kind: api.Plus, A: ones(1)}, {Kind: api.Plus, A: ones(3)}, {Kind: api.Same}, {Kind: api.Same, A: ones(1)}, {Kind: api.Same, A: ones(3)},
		{Kind: api.If}, {Kind: api.If, A: ones(2)}, {Kind: api.If, A: ones(4)},
		parts("a"), parts("", one()), parts("a b", one()), parts("a", one(), one()), parts("b a", ones(2)...), parts("a a", ones(2)...), parts("a c b", ones(3)...),
		parts("A", one()), parts("9", one()), parts("abcdefghijklm", one()), parts("a0 a", ones(2)...),
		{Kind: api.Parts, N: []string{""}, A: ones(1)}, {Kind: api.Parts, N: make([]string, 1000)},
		pick(one(), ""), pick(one(), "A"), {Kind: api.Pick, S: "a"}, {Kind: api.Pick, S: "a", A: ones(2)},
	}
	for _, v := range wrongLits() {
		cases = append(cases, lit(v))
	}
	cases = append(cases, spareFields()...)
	for _, e := range cases {
		for _, whole := range []api.Expr{e, items(one(), e), choice(one(), one(), parts("a", e)), pick(e, "a")} {
			if err := lang.Check(whole); err != api.ErrShape {
				t.Errorf("Check(%+v) = %v, want %v", whole, err, api.ErrShape)
			}
		}
	}
	if err := lang.Check(nested(api.Expr{}, api.MaxDeep-1)); err != api.ErrShape {
		t.Errorf("Check of what is none, deep within = %v, want %v", err, api.ErrShape)
	}
}

// spareFields: one of every Kind with something that it has no use for.
func spareFields() []api.Expr {
	var l []api.Expr
	good := []api.Expr{lit(num(1)), in("a"), of("a", "b"), from("a", "b"), plus(one(), one()), same(one(), one()), choice(one(), one(), one()), items(one()), parts("a", one()), pick(one(), "a")}
	for _, e := range good {
		if e.Kind != api.Lit {
			for _, v := range []api.Value{num(0), num(1), {N: 1}, {S: "a"}, {L: []api.Value{{}}}, {F: []api.Field{{}}}, {Kind: -1}} {
				x := e
				x.V = v
				l = append(l, x)
			}
		}
		if e.S == "" {
			x := e
			x.S = "a"
			l = append(l, x)
		}
		if e.T == "" {
			x := e
			x.T = "a"
			l = append(l, x)
		}
		if e.Kind < api.Plus {
			x := e
			x.A = ones(1)
			l = append(l, x)
		}
		if e.Kind != api.Parts {
			x := e
			x.N = []string{"a"}
			l = append(l, x)
		}
	}
	return l
}

// C1: whatever else it is, expressions are counted.
func TestCheckMany(t *testing.T) {
	cases := []api.Expr{
		items(ones(api.MaxParts)...), items(ones(100000)...), items(items(ones(19)...), items(ones(19)...), items(ones(19)...)),
		nested(one(), api.MaxDeep), nested(items(), api.MaxDeep), nested(api.Expr{}, api.MaxDeep), nested(one(), 1000000), endless(),
		{Kind: 99, A: make([]api.Expr, api.MaxParts)}, {A: make([]api.Expr, api.MaxParts)}, {Kind: api.Lit, V: num(1), A: ones(api.MaxParts)},
		{Kind: api.In, S: "A", A: []api.Expr{nested(one(), api.MaxDeep-1)}}, pick(nested(one(), api.MaxDeep-1), ""), lang.CopyExpr(choice(one(), nested(one(), api.MaxDeep-1), one())),
		plus(items(ones(29)...), items(ones(29)...)),
	}
	for i, e := range cases {
		if err := lang.Check(e); err != api.ErrMany {
			t.Errorf("case %d: Check = %v, want %v", i, err, api.ErrMany)
		}
	}
	if err := lang.Check(plus(items(ones(29)...), items(ones(28)...))); err != nil {
		t.Errorf("Check of %d expressions = %v, want none", api.MaxParts, err)
	}
}

// anything: an expression that is none, with something in every field.
func anything() api.Expr {
	return api.Expr{Kind: 99, S: "s", T: "t", N: []string{"b", "a"},
		V: api.Value{Kind: api.List, N: 3, S: "v", L: []api.Value{{Kind: api.List, L: []api.Value{num(1)}}}, F: []api.Field{{Name: "f", V: num(2)}}},
		A: []api.Expr{plus(one(), items(in("a"))), parts("a b", one(), one())}}
}

// C1, Z2
func TestCopyExpr(t *testing.T) {
	for _, c := range writtenExprs() {
		if got := lang.CopyExpr(c.e); !alike(got, c.e) {
			t.Errorf("CopyExpr of %s = %+v", c.s, got)
		}
	}
	e := anything()
	c := lang.CopyExpr(e)
	if !reflect.DeepEqual(c, anything()) {
		t.Fatalf("CopyExpr = %+v, want %+v", c, anything())
	}
	c.N[0], c.V.L[0].L[0], c.V.L[0], c.V.F[0].Name = "z", num(9), num(9), "z"
	c.A[0].A[1].A[0], c.A[0].A[0], c.A[0], c.A[1].N[0] = in("z"), in("z"), in("z"), "z"
	if !reflect.DeepEqual(e, anything()) {
		t.Errorf("what was copied is %+v behind a change of its copy", e)
	}
}

// Z2: what stands behind a list in memory is not written into by one who appends to a copy.
func TestCopyExprBehind(t *testing.T) {
	l, n := ones(2), []string{"a", "b"}
	c := lang.CopyExpr(api.Expr{A: l[:1], N: n[:1]})
	c.A, c.N = append(c.A, in("x")), append(c.N, "x")
	if !alike(l[1], one()) || n[1] != "b" {
		t.Errorf("behind the lists stand %v, %v", l[1], n[1])
	}
	two := lang.CopyExpr(items(items(one()), items(one())))
	two.A[0].A = append(two.A[0].A, in("x"))
	if !alike(two.A[1], items(one())) {
		t.Error("two lists of a copy share memory")
	}
}

// Z1: expressions may be deeper than calls in each other are let be here.
func TestDeepExpr(t *testing.T) {
	defer debug.SetMaxStack(debug.SetMaxStack(1 << 20))
	e := nested(one(), 200000)
	c := lang.CopyExpr(e)
	for range 200000 {
		if c.Kind != api.Items || len(c.A) != 1 {
			t.Fatal("a deep expression's copy is another one")
		}
		c = c.A[0]
	}
	if s, err := lang.Text(e); s != "" || err != api.ErrMany {
		t.Errorf("Text of a deep expression = %q, %v, want %v", s, err, api.ErrMany)
	}
}

// C2
func TestText(t *testing.T) {
	for _, c := range writtenExprs() {
		if got, err := lang.Text(c.e); got != c.s || err != nil {
			t.Errorf("Text = %s, %v, want %s", got, err, c.s)
		}
	}
}

// C2, Z1, Z3: Check's error, and no text beside it.
func TestTextWrong(t *testing.T) {
	cases := []struct {
		e    api.Expr
		want error
	}{
		{api.Expr{}, api.ErrShape}, {items(one(), lit(flag(2))), api.ErrShape}, {parts("b a", ones(2)...), api.ErrShape},
		{nested(api.Expr{}, api.MaxDeep), api.ErrMany}, {items(ones(api.MaxParts)...), api.ErrMany}, {endless(), api.ErrMany},
	}
	for i, c := range cases {
		if got, err := lang.Text(c.e); got != "" || err != c.want {
			t.Errorf("case %d: Text = %q, %v, want no text, %v", i, got, err, c.want)
		}
	}
}

// C3, W7: what is written is read.
func TestParseWritten(t *testing.T) {
	for _, c := range writtenExprs() {
		if got, at, err := lang.Parse(c.s); !alike(got, c.e) || at != 0 || err != nil {
			t.Errorf("Parse(%s) = %+v, %d, %v, want %+v", c.s, got, at, err, c.e)
		}
	}
}

// C3: tokens are what counts, not what stands between them.
func TestParseOther(t *testing.T) {
	cases := []written{
		{" \n1 # x", one()}, {"#(\n1\n", one()}, {"- 5", lit(num(-5))}, {"-#\n5", lit(num(-5))}, {`"\x41"`, lit(text("A"))},
		{"in . a", in("a")}, {"res.\na\n.b", of("a", "b")}, {"(1+2)", plus(one(), lit(num(2)))}, {"(1==-2)", same(one(), lit(num(-2)))}, {"(in.a?in.b:in.c)", choice(in("a"), in("b"), in("c"))},
		{"[1,1 ,1]", items(ones(3)...)}, {"[ ]", items()}, {"{ }", parts("")}, {"{a:1,b :1}", parts("a b", ones(2)...)}, {"get{a:1}a", pick(parts("a", one()), "a")}, {"get 1a", pick(one(), "a")},
		{"in.true", in("true")}, {"stack.null.get", from("null", "get")}, {"{false: 1, in: 1, stack: 1}", parts("false in stack", ones(3)...)},
		{`in."a"`, in("a")}, {`res."a"."b9"`, of("a", "b9")}, {`stack."a".b`, from("a", "b")}, {`{"a": 1, b: 1}`, parts("a b", ones(2)...)}, {`get 1 "a"`, pick(one(), "a")},
	}
	for _, c := range cases {
		if got, at, err := lang.Parse(c.s); !alike(got, c.e) || at != 0 || err != nil {
			t.Errorf("Parse(%q) = %+v, %d, %v, want %+v", c.s, got, at, err, c.e)
		}
	}
}

// marked: a text in which '^' tells where the error is.
type marked struct {
	s    string
	want error
}

// unmarked: the text without its mark, and where that was.
func (m marked) unmarked() (string, int) {
	at := strings.IndexByte(m.s, '^')
	return m.s[:at] + m.s[at+1:], at
}

// checkParse: Z1 as well: no expression beside an error.
func checkParse(t *testing.T, cases []marked) {
	t.Helper()
	for _, c := range cases {
		s, at := c.unmarked()
		got, where, err := lang.Parse(s)
		if !reflect.DeepEqual(got, api.Expr{}) || where != at || err != c.want {
			t.Errorf("Parse(%.60q) = %+v, %d, %v, want none, %d, %v", s, got, where, err, at, c.want)
		}
	}
}

// C3: what Tokens says comes first.
func TestParseTokens(t *testing.T) {
	checkParse(t, []marked{
		{"^!", api.ErrSign}, {") ^!", api.ErrSign}, {"(1 + ^\"x", api.ErrSign}, {"[^01]", api.ErrBound}, {") ^abcdefghijklm", api.ErrBound}, {"^12345678901", api.ErrBound},
		{"^" + strings.Repeat(" ", api.MaxWork+1), api.ErrMany}, {"^)" + strings.Repeat("!", api.MaxWork), api.ErrMany},
	})
}

// C3
func TestParseNumbers(t *testing.T) {
	checkParse(t, []marked{
		{"^1000000001", api.ErrBound}, {"^9999999999", api.ErrBound}, {"-^1000000001", api.ErrBound}, {"- ^0", api.ErrBound}, {"[1, -^0]", api.ErrBound}, {"[1, ^1000000001, )", api.ErrBound},
		{"-^", api.ErrText}, {"- ^", api.ErrText}, {"-^-1", api.ErrText}, {"-^a", api.ErrText}, {"-^\"1\"", api.ErrText}, {"-^(1 + 1)", api.ErrText},
	})
}

// C3: another token than the one that is wanted.
func TestParseWanted(t *testing.T) {
	checkParse(t, []marked{
		{"^", api.ErrText}, {"  ^", api.ErrText}, {"# x\n^", api.ErrText}, {" ^)", api.ErrText}, {"^=", api.ErrText}, {"^==", api.ErrText}, {"^a", api.ErrText}, {"^nul", api.ErrText}, {"^input", api.ErrText}, {"^.", api.ErrText}, {"^+", api.ErrText}, {"^]", api.ErrText}, {"^?", api.ErrText},
		{"in^", api.ErrText}, {"in ^a", api.ErrText}, {"in.^", api.ErrText}, {"in.^1", api.ErrText}, {"in.^.", api.ErrText}, {"in.^\"A\"", api.ErrText}, {"in.^\"\"", api.ErrText}, {"in.^\"abcdefghijklm\"", api.ErrText}, {"in^\".\"a", api.ErrText},
		{"res^", api.ErrText}, {"res.^", api.ErrText}, {"res.^(", api.ErrText}, {"res.a^", api.ErrText}, {"res.a ^b", api.ErrText}, {"res.a.^", api.ErrText}, {"res.a.^0", api.ErrText},
		{"stack^,", api.ErrText}, {"stack.^-", api.ErrText}, {"stack.a^=", api.ErrText}, {"stack.a.^\"a b\"", api.ErrText},
		{"get^", api.ErrText}, {"get ^a", api.ErrText}, {"get 1^", api.ErrText}, {"get 1 ^2", api.ErrText}, {"get 1 ^.a", api.ErrText}, {"get 1 ^\"A\"", api.ErrText},
		{"(^", api.ErrText}, {"(^)", api.ErrText}, {"(1^", api.ErrText}, {"(1^)", api.ErrText}, {"(1 ^- 1)", api.ErrText}, {"(1 ^= 1)", api.ErrText}, {"(1 ^: 1)", api.ErrText}, {"(1 ^\"+\" 1)", api.ErrText}, {"(1 ^\"==\" 1)", api.ErrText}, {"(1 ^\"?\" 1 : 1)", api.ErrText}, {"(1 ^2)", api.ErrText},
		{"(1 +^", api.ErrText}, {"(1 + ^)", api.ErrText}, {"(1 + 1^", api.ErrText}, {"(1 + 1 ^+ 1)", api.ErrText}, {"(1 == 1^]", api.ErrText}, {"(1 == ^= 1)", api.ErrText}, {"(1 + 1 ^\")\"", api.ErrText},
		{"(1 ?^", api.ErrText}, {"(1 ? ^: 1)", api.ErrText}, {"(1 ? 1^", api.ErrText}, {"(1 ? 1^)", api.ErrText}, {"(1 ? 1 ^, 1)", api.ErrText}, {"(1 ? 1 :^", api.ErrText}, {"(1 ? 1 : ^)", api.ErrText}, {"(1 ? 1 : 1^", api.ErrText}, {"(1 ? 1 : 1 ^: 1)", api.ErrText},
		{"[^", api.ErrText}, {"[^,", api.ErrText}, {"[1^", api.ErrText}, {"[1 ^1]", api.ErrText}, {"[1,^", api.ErrText}, {"[1,^]", api.ErrText}, {"[1, ^, 1]", api.ErrText}, {"[1^}", api.ErrText}, {"[^\"]", api.ErrSign}, {"[1 ^\",\" 1]", api.ErrText},
		{"{^", api.ErrText}, {"{^1", api.ErrText}, {"{^]", api.ErrText}, {"{^,", api.ErrText}, {"{^\"A\": 1}", api.ErrText}, {"{a^", api.ErrText}, {"{a^}", api.ErrText}, {"{a ^1}", api.ErrText}, {"{a ^= 1}", api.ErrText}, {"{a:^", api.ErrText}, {"{a: ^}", api.ErrText}, {"{a: 1^", api.ErrText}, {"{a: 1 ^b: 1}", api.ErrText}, {"{a: 1,^", api.ErrText}, {"{a: 1, ^}", api.ErrText}, {"{a: 1^]", api.ErrText},
	})
}

// C3: names of Parts rise.
func TestParseParts(t *testing.T) {
	checkParse(t, []marked{
		{"{b: 1, a^: 1}", api.ErrShape}, {"{a: 1, a ^: 1}", api.ErrShape}, {"{a: 1, c: 1, b^: )", api.ErrShape}, {"{a0: 1, a^", api.ErrShape}, {"{b: 1, a  ^", api.ErrShape}, {"{b: 1, a ^)", api.ErrShape}, {"{b: 1, \"a\" ^: 1}", api.ErrShape}, {"{a: {b: 1, b^: 1}}", api.ErrShape},
		{"{b: ^), a: 1}", api.ErrText}, {"{b: ^1000000001, a: 1}", api.ErrBound},
	})
}

// C3: one that is too deep is told where it begins.
func TestParseDeep(t *testing.T) {
	checkParse(t, []marked{
		{"[[[[[[^1]]]]]]", api.ErrMany}, {"((((((^((((((", api.ErrMany}, {"[[[[[[^[[[[[[", api.ErrMany}, {"[[[[[1, [ ^\"x\"", api.ErrMany}, {"[[[[[1, [ ^\"x", api.ErrSign},
		{"{a: {a: {a: {a: {a: {a: ^{a: 1", api.ErrMany}, {"get get get get get get ^get 1 a", api.ErrMany}, {"get get get get get get ^in.a a", api.ErrMany}, {"[[[[[[ ^-0", api.ErrMany},
		{"[[[[[(^1 + 1)]]]]]", api.ErrMany}, {"[[[[(1 ? 1 : [^1])]]]]", api.ErrMany}, {"[^1000000001, [[[[[[1]]]]]]", api.ErrBound}, {"[[[[[[^1]]]]]], )", api.ErrMany},
		{strings.Repeat("[", api.MaxDeep) + "^" + strings.Repeat("[", api.MaxWork-api.MaxDeep), api.ErrMany},
	})
}

// C3: what begins no expression is none that is too deep.
func TestParseNoneDeep(t *testing.T) {
	checkParse(t, []marked{
		{"[1, [[[[1]]]], ^)", api.ErrText}, {"[[[[[[^", api.ErrText}, {"[[[[[[^)", api.ErrText}, {"((((((^a", api.ErrText}, {"[[[[[[^1000000001", api.ErrBound},
	})
}

// C3: then what Check says, where the expression begins; then what stands behind it.
func TestParseBehind(t *testing.T) {
	many := "[1" + strings.Repeat(", 1", api.MaxParts-1)
	checkParse(t, []marked{
		{" ^" + many + "]", api.ErrMany}, {"^" + many + "] )", api.ErrMany}, {many + "^)", api.ErrText}, {many + ", ^1000000001]", api.ErrBound}, {many + "^", api.ErrText},
		{"1 ^1", api.ErrText}, {"1 # x\n^)", api.ErrText}, {"in.a^.b", api.ErrText}, {"(1 + 1) ^+ 1", api.ErrText}, {"[]^]", api.ErrText}, {"get 1 a ^b", api.ErrText}, {"1^.5", api.ErrText}, {"1^\"\"", api.ErrText},
	})
}

// Z2: what is answered is the caller's.
func TestParseFresh(t *testing.T) {
	s := "{a: [1, 1], b: [1, 1]}"
	first, _, _ := lang.Parse(s)
	first.A[0].A = append(first.A[0].A, in("x"))
	first.A[0].A[0] = in("x")
	first.N = append(first.N[:1], "x")
	if !alike(first.A[1], items(ones(2)...)) {
		t.Error("two lists of an expression share memory")
	}
	second, _, err := lang.Parse(s)
	if err != nil || !alike(second, parts("a b", items(ones(2)...), items(ones(2)...))) {
		t.Errorf("Parse again = %+v, %v", second, err)
	}
}

// Z1, W7: whatever bytes there are, it ends, what it tells lies in the text, and what it reads is written and read again.
func FuzzParse(f *testing.F) {
	for _, c := range writtenExprs() {
		f.Add(c.s)
	}
	f.Add("[[[[[[[")
	f.Add("{b: 1, a")
	f.Fuzz(func(t *testing.T, s string) {
		e, at, err := lang.Parse(s)
		if at < 0 || at > len(s) || err == nil && at != 0 || err != nil && !reflect.DeepEqual(e, api.Expr{}) {
			t.Fatalf("Parse(%q) = %+v, %d, %v", s, e, at, err)
		}
		if err != nil {
			return
		}
		written, err := lang.Text(e)
		if err != nil {
			t.Fatalf("Parse(%q) = %+v, which is %v", s, e, err)
		}
		again, _, err := lang.Parse(written)
		if len(written) <= api.MaxWork && (err != nil || !alike(again, e)) {
			t.Fatalf("Parse(%q) = %+v, %v, want %+v", written, again, err, e)
		}
	})
}
