package eval_test

import (
	"reflect"
	"runtime/debug"
	"strings"
	"testing"

	"wavewright/api"
	"wavewright/eval"
	"wavewright/lang"
	"wavewright/value"
)

func num(n int) api.Value           { return api.Value{Kind: api.Num, N: n} }
func text(s string) api.Value       { return api.Value{Kind: api.Text, S: s} }
func flag(n int) api.Value          { return api.Value{Kind: api.Flag, N: n} }
func list(l ...api.Value) api.Value { return api.Value{Kind: api.List, L: l} }
func rec(l ...api.Field) api.Value  { return api.Value{Kind: api.Rec, F: l} }
func field(name string, v api.Value) api.Field {
	return api.Field{Name: name, V: v}
}

func lit(v api.Value) api.Expr            { return api.Expr{Kind: api.Lit, V: v} }
func of(kind int, l ...api.Expr) api.Expr { return api.Expr{Kind: kind, A: l} }
func in(name string) api.Expr             { return api.Expr{Kind: api.In, S: name} }
func pick(e api.Expr, name string) api.Expr {
	return api.Expr{Kind: api.Pick, S: name, A: []api.Expr{e}}
}
func parts(names string, l ...api.Expr) api.Expr {
	return api.Expr{Kind: api.Parts, N: strings.Fields(names), A: l}
}

// none: an expression that is ErrNone.
func none() api.Expr { return in("none") }

// bound: an expression that is ErrBound.
func bound() api.Expr { return of(api.Plus, lit(num(api.MaxNumber)), lit(num(1))) }

// wide: a list of so many parts.
func wide(size int) api.Value {
	v := list()
	for range size - 1 {
		v.L = append(v.L, num(1))
	}
	return v
}

// nested: v within lists, so many.
func nested(v api.Value, lists int) api.Value {
	for range lists {
		v = list(v)
	}
	return v
}

// round: a value that has itself in it.
func round() api.Value {
	v := list(num(1))
	v.L[0] = v
	return v
}

func parse(t *testing.T, s string) api.Expr {
	t.Helper()
	e, at, err := lang.Parse(s)
	if err != nil {
		t.Fatalf("Parse(%s) = %v at %d", s, err, at)
	}
	return e
}

// site: what the expressions here may name.
func site() eval.Env {
	most := strings.Repeat("m", api.MaxText)
	return eval.Env{
		In: map[string]api.Value{
			"size": num(3), "name": text("web"), "yes": flag(1), "no": flag(0), "nothing": {}, "l": list(num(1), text("x")), "r": rec(field("a", num(7))),
			"max": num(api.MaxNumber), "min": num(-api.MaxNumber), "long": text(most), "less": text(most[1:]),
			"half": wide(31), "rest": wide(30), "more": wide(32), "all": wide(api.MaxParts), "deep": nested(num(1), api.MaxDeep-1), "a": num(100),
		},
		Res: map[string]api.Value{
			"one": rec(field("id", num(2)), field("size", num(5)), field("tags", list(text("t")))), "a": rec(field("a", num(200))), "bare": rec(),
		},
		From: map[string]map[string]api.Value{
			"base": {"id": num(1), "size": num(4), "l": list(text("b"))}, "a": {"a": num(300)}, "bare": {}, "nil": nil,
		},
	}
}

// isZero: has it nothing?
func isZero(v api.Value) bool { return value.Alike(v, api.Value{}) }

func checkGood(t *testing.T, cases [][2]string) {
	t.Helper()
	for _, c := range cases {
		v, err := eval.Eval(parse(t, c[0]), site())
		got, other := value.Text(v)
		if err != nil || other != nil || got != c[1] {
			t.Errorf("Eval(%s) = %s, %v, %v, want %s", c[0], got, err, other, c[1])
		}
	}
}

// F1
func TestGood(t *testing.T) {
	checkGood(t, [][2]string{
		{"null", "null"}, {"7", "7"}, {"-7", "-7"}, {`"a\x00"`, `"a\x00"`}, {`""`, `""`}, {"true", "true"}, {"false", "false"},
		{"in.size", "3"}, {"in.name", `"web"`}, {"in.yes", "true"}, {"in.nothing", "null"}, {"in.l", `[1, "x"]`}, {"in.r", "{a: 7}"},
		{"res.one.id", "2"}, {"res.one.size", "5"}, {"res.one.tags", `["t"]`},
		{"stack.base.id", "1"}, {"stack.base.size", "4"}, {"stack.base.l", `["b"]`},
		// each of its own, though they have one name
		{"[in.a, res.a.a, stack.a.a]", "[100, 200, 300]"},
		{"(1 + 2)", "3"}, {"(1 + -2)", "-1"}, {"(in.size + res.one.size)", "8"}, {`("a" + "b")`, `"ab"`}, {`("" + "")`, `""`}, {`(in.name + "x")`, `"webx"`},
		{"([1, 2] + [3])", "[1, 2, 3]"}, {"([] + [])", "[]"}, {"(in.l + [in.l])", `[1, "x", [1, "x"]]`},
		{"(1 == 1)", "true"}, {"(1 == 2)", "false"}, {`(1 == "1")`, "false"}, {"(1 == true)", "false"}, {"(null == null)", "true"}, {"(null == [])", "false"}, {"([] == {})", "false"},
		{"([1, {a: 2}] == [1, {a: 2}])", "true"}, {"([1, 2] == [2, 1])", "false"}, {"({a: 1} == {b: 1})", "false"}, {"(in.l == in.l)", "true"},
		{"(true ? 1 : 2)", "1"}, {"(false ? 1 : 2)", "2"}, {`((1 == 1) ? "a" : 2)`, `"a"`}, {"(in.no ? 1 : [2])", "[2]"}, {"(true ? false : true)", "false"},
		{"((true ? false : true) ? 1 : (true ? 2 : 3))", "2"},
		{"[]", "[]"}, {"[1]", "[1]"}, {"[(1 + 1), in.name, [true]]", `[2, "web", [true]]`},
		{"{}", "{}"}, {"{a: 1}", "{a: 1}"}, {"{a: (1 + 1), b: {c: in.name}}", `{a: 2, b: {c: "web"}}`},
		{"get {a: 1, b: 2} b", "2"}, {"get {a: 1, b: 2} a", "1"}, {"get in.r a", "7"}, {"get get {a: {b: [1]}} a b", "[1]"},
		{`get {a: [1, "x"], b: -5} b`, "-5"},
	})
}

// F1: what the bounds let be.
func TestEdges(t *testing.T) {
	checkGood(t, [][2]string{
		{"(in.max + 0)", "1000000000"}, {"(999999999 + 1)", "1000000000"}, {"(in.min + 0)", "-1000000000"}, {"(-1 + -999999999)", "-1000000000"}, {"(in.max + in.min)", "0"},
		{`((in.less + "x") == in.long)`, "false"}, {`((in.less + "m") == in.long)`, "true"}, {`((in.long + "") == in.long)`, "true"},
		{"((in.half + in.rest) == in.all)", "true"}, {"(in.all == in.all)", "true"}, {"((in.all + []) == in.all)", "true"},
		{"in.deep", "[[[[[1]]]]]"}, {"([] + in.deep)", "[[[[[1]]]]]"}, {"get {a: [[[1]]]} a", "[[[1]]]"},
	})
}

func checkWrong(t *testing.T, s string, want error) {
	t.Helper()
	v, err := eval.Eval(parse(t, s), site())
	if err != want || !isZero(v) {
		t.Errorf("Eval(%s) = %v, %v, want nothing, %v", s, v, err, want)
	}
}

// F1, Z1
func TestNone(t *testing.T) {
	for _, s := range []string{
		"in.none", "in.one", "in.base", "res.none.id", "res.one.none", "res.bare.id", "res.size.size", "res.base.id", "stack.none.id", "stack.base.none", "stack.bare.id", "stack.nil.id", "stack.one.id",
		"get {} a", "get {a: 1} b", "get {b: 1} a", "get in.r b", "get {a: {b: 1}} b",
	} {
		checkWrong(t, s, api.ErrNone)
	}
}

// F1, Z1
func TestBound(t *testing.T) {
	for _, s := range []string{
		"(in.max + 1)", "(1 + in.max)", "(in.max + in.max)", "(-1 + in.min)", "(in.min + -1)", "(in.min + in.min)", `(in.long + "x")`, `("x" + in.long)`, "(in.long + in.long)",
	} {
		checkWrong(t, s, api.ErrBound)
	}
}

// F1, Z1
func TestKind(t *testing.T) {
	for _, s := range []string{
		`(1 + "x")`, `("x" + 1)`, "(1 + true)", "(true + 1)", "(1 + null)", "([] + 1)", "(1 + [])", "({} + [])", "(in.max + in.long)",
		"(true + true)", "(null + null)", "({} + {})", "({a: 1} + {b: 2})",
		"(1 ? 1 : 2)", "(0 ? 1 : 2)", "(null ? 1 : 2)", `("true" ? 1 : 2)`, "([true] ? 1 : 2)", "({a: true} ? 1 : 2)",
		"get 1 a", "get null a", "get [] a", "get [{a: 1}] a", `get "a" a`, "get true a",
	} {
		checkWrong(t, s, api.ErrKind)
	}
}

// F2, Z1: what is made is checked.
func TestMany(t *testing.T) {
	for _, s := range []string{
		"(in.half + in.half)", "(in.more + in.rest)", "(in.all + [1])", "[in.all]", "{a: in.all}", "[in.half, in.rest]", "[in.deep]", "{a: in.deep}", "(in.deep + [in.deep])", "get {a: in.deep} a", "[[[[[[]]]]], in.deep]",
	} {
		checkWrong(t, s, api.ErrMany)
	}
}

type made struct {
	e    api.Expr
	want error
}

func checkMade(t *testing.T, cases []made) {
	t.Helper()
	for i, c := range cases {
		v, err := eval.Eval(c.e, site())
		if err != c.want || err != nil && !isZero(v) {
			t.Errorf("case %d: Eval = %v, %v, want %v", i, v, err, c.want)
		}
	}
}

// F2: of those in A the first error is told, ahead of what is made of them.
func TestErrorsOfA(t *testing.T) {
	bad, one := lit(flag(2)), lit(num(1))
	checkMade(t, []made{
		{of(api.Plus, none(), bound()), api.ErrNone}, {of(api.Plus, bound(), none()), api.ErrBound}, {of(api.Plus, one, none()), api.ErrNone}, {of(api.Plus, lit(text("")), bound()), api.ErrBound},
		{of(api.Same, bound(), none()), api.ErrBound}, {of(api.Same, bad, none()), api.ErrShape}, {of(api.Same, none(), bad), api.ErrNone}, {of(api.Same, bad, bad), api.ErrShape},
		{of(api.Items, one, bad, none()), api.ErrShape}, {of(api.Items, one, none(), bad), api.ErrNone}, {of(api.Items, lit(round()), bad), api.ErrMany}, {of(api.Items, lit(wide(api.MaxParts)), none()), api.ErrNone},
		{parts("a b", one, none()), api.ErrNone}, {parts("b a", one, none()), api.ErrNone}, {parts("b a", one, bad), api.ErrShape}, {parts("a b", lit(wide(api.MaxParts)), bound()), api.ErrBound},
		{pick(none(), "a"), api.ErrNone}, {pick(bad, "a"), api.ErrShape}, {pick(lit(wide(api.MaxParts+1)), "a"), api.ErrMany},
		// a value that is none is told ahead of its being of another kind
		{of(api.Plus, lit(num(api.MaxNumber+1)), one), api.ErrShape}, {of(api.Plus, one, lit(text(strings.Repeat("x", api.MaxText+1)))), api.ErrShape}, {of(api.Plus, lit(flag(2)), lit(num(2))), api.ErrShape},
		// one that is made of a field only is checked too
		{pick(lit(rec(field("a", num(1)), field("b", flag(9)))), "a"), api.ErrShape}, {pick(lit(rec(field("b", num(1)), field("a", num(1)))), "a"), api.ErrShape},
	})
}

// F2: Check's error of what is made.
func TestErrorsOfTheWhole(t *testing.T) {
	env := eval.Env{In: map[string]api.Value{"a": flag(2), "b": round()}, Res: map[string]api.Value{"a": rec(field("a", flag(2)), field("b", num(1)), field("c", round()), field("b", num(2)))}, From: map[string]map[string]api.Value{"a": {"a": text(strings.Repeat("x", api.MaxText+1))}}}
	cases := []made{
		{lit(flag(2)), api.ErrShape}, {lit(num(api.MaxNumber + 1)), api.ErrShape}, {lit(api.Value{Kind: 6}), api.ErrShape}, {lit(api.Value{N: 1}), api.ErrShape}, {lit(round()), api.ErrMany}, {lit(nested(flag(2), api.MaxDeep)), api.ErrMany},
		{in("a"), api.ErrShape}, {in("b"), api.ErrMany}, {api.Expr{Kind: api.Of, S: "a", T: "a"}, api.ErrShape}, {api.Expr{Kind: api.From, S: "a", T: "a"}, api.ErrShape},
		{api.Expr{Kind: api.Of, S: "a", T: "b"}, nil}, {api.Expr{Kind: api.Of, S: "a", T: "c"}, api.ErrMany},
		{parts("b a", lit(num(1)), lit(num(1))), api.ErrShape}, {parts("a a", lit(num(1)), lit(num(1))), api.ErrShape}, {parts("9", lit(num(1))), api.ErrShape}, {parts("a A", lit(num(1)), lit(num(1))), api.ErrShape},
		{parts("b a", lit(nested(num(1), api.MaxDeep-1)), lit(num(1))), api.ErrMany}, {parts("9", lit(wide(api.MaxParts))), api.ErrMany},
	}
	for i, c := range cases {
		v, err := eval.Eval(c.e, env)
		if err != c.want || err != nil && !isZero(v) {
			t.Errorf("case %d: Eval = %v, %v, want %v", i, v, err, c.want)
		}
	}
}

// F1, F2: of an If one alone is reckoned behind what it hangs on.
func TestIf(t *testing.T) {
	yes, no, bad, one := lit(flag(1)), lit(flag(0)), lit(flag(2)), lit(num(1))
	checkMade(t, []made{
		{of(api.If, yes, one, none()), nil}, {of(api.If, no, none(), one), nil}, {of(api.If, yes, one, bad), nil}, {of(api.If, no, api.Expr{}, one), nil}, {of(api.If, no, of(api.If), one), nil},
		{of(api.If, yes, none(), bound()), api.ErrNone}, {of(api.If, no, none(), bound()), api.ErrBound}, {of(api.If, yes, bad, one), api.ErrShape}, {of(api.If, no, one, lit(round())), api.ErrMany},
		{of(api.If, none(), bound(), bound()), api.ErrNone}, {of(api.If, bad, none(), none()), api.ErrShape}, {of(api.If, lit(round()), none(), none()), api.ErrMany}, {of(api.If, one, none(), none()), api.ErrKind}, {of(api.If, lit(num(api.MaxNumber+1)), one, one), api.ErrShape},
		{of(api.Same, of(api.If, yes, bad, one), none()), api.ErrShape}, {of(api.If, of(api.If, yes, bad, one), none(), none()), api.ErrShape},
	})
}

// F2: another number of A, or of N, behind the errors of those in A.
func TestCounts(t *testing.T) {
	one := lit(num(1))
	record := lit(rec(field("a", num(1))))
	shape := []api.Expr{
		{}, of(-1), of(0, one), of(11), of(11, one, one), of(1 << 40),
		of(api.Plus), of(api.Plus, one), of(api.Plus, one, one, one), of(api.Same), of(api.Same, one), of(api.Same, one, one, one),
		pick(one, "a"), pick(record, "a"), parts("a"), parts("", one), parts("a b", one), parts("a", one, one),
	}
	shape[12].A, shape[13].A = nil, append(shape[13].A, record)
	for _, e := range shape {
		checkMade(t, []made{{e, api.ErrShape}})
		e.A = append(append([]api.Expr(nil), e.A...), one, one, none(), lit(flag(2)))
		checkMade(t, []made{{e, api.ErrNone}})
	}
}

// F2: of an If ahead of them.
func TestCountsOfIf(t *testing.T) {
	yes, one := lit(flag(1)), lit(num(1))
	checkMade(t, []made{
		{of(api.If), api.ErrShape}, {of(api.If, yes), api.ErrShape}, {of(api.If, yes, one), api.ErrShape}, {of(api.If, yes, one, one, one), api.ErrShape},
		{of(api.If, none()), api.ErrShape}, {of(api.If, one, one), api.ErrShape}, {of(api.If, none(), none(), none(), none()), api.ErrShape},
		{of(api.If, none(), none(), none()), api.ErrNone},
	})
}

// F2: what a Kind has no use for is left alone, and what is in A is reckoned all the same.
func TestLeftAlone(t *testing.T) {
	spare := api.Expr{V: flag(2), S: "a", T: "a", N: []string{"", ""}}
	for kind := api.Lit; kind <= api.Pick; kind++ {
		e := spare
		e.Kind = kind
		switch kind {
		case api.Lit:
			e.V = num(1)
		case api.If:
			e.A = []api.Expr{lit(flag(1)), lit(num(1)), none()}
		case api.Parts:
			e.N = nil
		case api.Pick:
			e.A = []api.Expr{lit(rec(field("a", num(1))))}
		case api.Plus, api.Same:
			e.A = []api.Expr{lit(num(1)), lit(num(2))}
		}
		checkMade(t, []made{{e, nil}})
		if kind <= api.From {
			e.A = []api.Expr{lit(num(1)), none(), bound()}
			checkMade(t, []made{{e, api.ErrNone}})
			e.A = e.A[:1]
			checkMade(t, []made{{e, nil}})
		}
	}
}

// F1: a literal may be a list or a record that was made by hand; names are taken as they are.
func TestByHand(t *testing.T) {
	v := rec(field("a", list(num(1), rec())))
	if got, err := eval.Eval(lit(v), eval.Env{}); err != nil || !value.Alike(got, v) {
		t.Errorf("Eval = %v, %v", got, err)
	}
	env := eval.Env{In: map[string]api.Value{"": num(1), "A b": num(2)}, From: map[string]map[string]api.Value{"": {"": num(3)}}}
	got, err := eval.Eval(of(api.Items, in(""), in("A b"), api.Expr{Kind: api.From}), env)
	if want := list(num(1), num(2), num(3)); err != nil || !value.Alike(got, want) {
		t.Errorf("Eval = %v, %v, want %v", got, err, want)
	}
}

// F1, Z1: nothing may be named where there are no maps.
func TestNoMaps(t *testing.T) {
	for _, s := range []string{"in.a", "res.a.a", "stack.a.a"} {
		if v, err := eval.Eval(parse(t, s), eval.Env{}); err != api.ErrNone || !isZero(v) {
			t.Errorf("Eval(%s) = %v, %v, want nothing, %v", s, v, err, api.ErrNone)
		}
	}
	if v, err := eval.Eval(parse(t, "(1 + 1)"), eval.Env{}); err != nil || v.N != 2 {
		t.Errorf("Eval((1 + 1)) = %v, %v", v, err)
	}
}

// Z1: expressions may be deeper than calls can be in each other.
func TestDeep(t *testing.T) {
	defer debug.SetMaxStack(debug.SetMaxStack(1 << 22))
	sum, choice, fields, wrong := lit(num(0)), lit(num(1)), lit(num(1)), lit(flag(2))
	const deep = 100000
	for range deep {
		sum = of(api.Plus, lit(num(1)), sum)
		choice = of(api.If, lit(flag(1)), choice, none())
		fields = pick(parts("a", fields), "a")
		wrong = of(api.Items, wrong)
	}
	for i, c := range []struct {
		e    api.Expr
		n    int
		want error
	}{{sum, deep, nil}, {choice, 1, nil}, {fields, 1, nil}, {wrong, 0, api.ErrShape}, {of(api.Items, of(api.Same, sum, choice), none()), 0, api.ErrNone}} {
		if v, err := eval.Eval(c.e, eval.Env{}); err != c.want || v.N != c.n {
			t.Errorf("case %d: Eval = %v, %v, want %d, %v", i, v, err, c.n, c.want)
		}
	}
}

// Z1: nor need they end.
func TestEndless(t *testing.T) {
	for length := 1; length < 40; length++ {
		cells := make([][]api.Expr, length)
		for i := range cells {
			cells[i] = []api.Expr{lit(num(1)), {}}
		}
		for i := range cells {
			cells[i][1] = of(api.Plus, cells[(i+1)%length]...)
		}
		e := of(api.Plus, cells[0]...)
		for lead := range 9 {
			if v, err := eval.Eval(e, eval.Env{}); err != api.ErrMany || !isZero(v) {
				t.Errorf("Eval of a round of %d behind %d = %v, %v, want nothing, %v", length, lead, v, err, api.ErrMany)
			}
			if v, err := eval.Eval(of(api.If, lit(flag(1)), lit(num(7)), e), eval.Env{}); err != nil || v.N != 7 {
				t.Errorf("Eval of another one than a round of %d = %v, %v", length, v, err)
			}
			e = of(api.If, lit(flag(1)), e, none())
		}
	}
}

// F2, Z1: ahead of what would not end an error is told; one that is there often is reckoned each time.
func TestRoundButEnding(t *testing.T) {
	cell := []api.Expr{none(), {}}
	cell[1] = of(api.Items, cell...)
	checkMade(t, []made{{cell[1], api.ErrNone}})
	e := lit(num(1))
	for range 10 {
		twice := []api.Expr{e, e}
		e = of(api.Plus, twice...)
	}
	if v, err := eval.Eval(e, eval.Env{}); err != nil || v.N != 1024 {
		t.Errorf("Eval = %v, %v, want 1024", v, err)
	}
}

// Z2: what is handed in is neither written into nor kept, nor is what stands behind it read.
func TestHandedInStays(t *testing.T) {
	behind := []api.Value{num(1), num(2), num(9)}
	env := eval.Env{In: map[string]api.Value{"l": list(behind[:1]...), "r": rec(field("a", list(num(5))))}}
	env.In["l"] = api.Value{Kind: api.List, L: behind[:1]}
	all := []api.Expr{in("l"), lit(api.Value{Kind: api.List, L: behind[1:2]}), none()}
	e := api.Expr{Kind: api.Plus, A: all[:2]}
	before := lang.CopyExpr(e)
	for range 2 {
		v, err := eval.Eval(e, env)
		if want := list(num(1), num(2)); err != nil || !value.Alike(v, want) {
			t.Fatalf("Eval = %v, %v, want %v", v, err, want)
		}
		v.L = append(v.L[:1], num(7), num(7))
		v.L[0] = num(7)
	}
	if !reflect.DeepEqual(behind, []api.Value{num(1), num(2), num(9)}) || !reflect.DeepEqual(all[2], none()) || !reflect.DeepEqual(lang.CopyExpr(e), before) || len(env.In) != 2 {
		t.Errorf("what was handed in is %v, %v, %v", behind, all, env)
	}
}

// Z2: what comes out is the caller's, and no two lists of it share memory.
func TestAnswersAreTheCallers(t *testing.T) {
	for _, s := range []string{"in.l", "res.one.tags", "stack.base.l", "(in.l + [])", "([] + in.l)", "(true ? in.l : 1)", "get {a: in.l} a", "[in.l, in.l]", "{a: in.l, b: in.l}", "[[in.l], in.l, res.one.tags]", "{a: in.r, b: [in.r]}"} {
		env := site()
		v, err := eval.Eval(parse(t, s), env)
		before := value.Copy(v)
		if err != nil {
			t.Fatalf("Eval(%s) = %v", s, err)
		}
		spoil(&v)
		if again, _ := eval.Eval(parse(t, s), env); !value.Alike(again, before) || !reflect.DeepEqual(env, site()) {
			t.Errorf("what Eval(%s) answered shares memory with what it was given", s)
		}
		if want := value.Copy(before); !value.Alike(v, spoil(&want)) {
			t.Errorf("in what Eval(%s) answered two share memory: %v", s, v)
		}
	}
	l := list(list(num(1)))
	v, _ := eval.Eval(lit(l), eval.Env{})
	if spoil(&v); !value.Alike(l, list(list(num(1)))) {
		t.Errorf("what Eval answered shares memory with a literal: %v", l)
	}
}

// spoil all numbers in it, one behind the other, each by one more than what stands there: those that are there twice by two.
func spoil(v *api.Value) api.Value {
	v.N++
	for i := range v.L {
		spoil(&v.L[i])
	}
	for i := range v.F {
		spoil(&v.F[i].V)
	}
	return *v
}

// Z3: errors are bare numbers of package api.
func TestErrorsAreBare(t *testing.T) {
	for i, e := range []api.Expr{{}, none(), bound(), of(api.Plus, lit(num(1)), lit(flag(1))), lit(round()), of(api.If), of(api.If, lit(num(1)), none(), none())} {
		_, err := eval.Eval(e, eval.Env{})
		if _, is := err.(api.Errno); !is {
			t.Errorf("case %d: %T is no api.Errno", i, err)
		}
	}
}
