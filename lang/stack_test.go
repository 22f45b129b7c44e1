package lang_test

import (
	"reflect"
	"strconv"
	"strings"
	"testing"

	"wavewright/api"
	"wavewright/lang"
)

// web: a stack with some of everything, and its text.
func web() api.Stack {
	return api.Stack{Name: "web",
		Inputs: []api.Input{{Name: "size", V: num(-3)}, {Name: "input", V: text("a\"\n")}, {Name: "on", V: flag(1)}, {Name: "no"}},
		Resources: []api.Resource{
			{Kind: "vm", Name: "one", Parts: []api.Part{{Name: "net", E: from("base", "id")}, {Name: "size", E: plus(in("size"), one())}}},
			{Kind: "stack", Name: "resource"},
			{Kind: "disk", Name: "two", Parts: []api.Part{{Name: "on", E: pick(parts("a b", of("one", "id"), items()), "a")}}}},
		Outputs: []api.Output{{Name: "big", E: same(of("one", "size"), lit(num(3)))}, {Name: "a", E: choice(in("on"), one(), lit(api.Value{}))}}}
}

const webText = `stack web
input size = -3
input input = "a\"\x0a"
input on = true
input no = null
resource vm one { net: stack.base.id, size: (in.size + 1) }
resource stack resource { }
resource disk two { on: get {a: res.one.id, b: []} a }
output big = (res.one.size == 3)
output a = (in.on ? 1 : null)
`

func sameStacks(a, b []api.Stack) bool {
	if len(a) != len(b) {
		return false
	}
	for i := range a {
		if !reflect.DeepEqual(lang.Copy(a[i]), lang.Copy(b[i])) {
			return false
		}
	}
	return true
}

// letter: the name number i.
func letter(i int) string { return string([]byte{byte('a' + i)}) }

func inputs(n int) []api.Input       { return make([]api.Input, n) }
func resources(n int) []api.Resource { return make([]api.Resource, n) }
func outputs(n int) []api.Output     { return make([]api.Output, n) }

// full: a stack that has as much as may be.
func full() api.Stack {
	s := api.Stack{Name: "abcdefghijkl"}
	r := api.Resource{Kind: "vm", Name: "one"}
	for i := range api.MaxFields {
		r.Parts = append(r.Parts, api.Part{Name: letter(i), E: one()})
	}
	for range api.MaxItems {
		s.Inputs = append(s.Inputs, api.Input{Name: "a", V: num(1)})
		s.Resources = append(s.Resources, r)
		s.Outputs = append(s.Outputs, api.Output{Name: "a", E: one()})
	}
	return s
}

// C4: a name may be there twice.
func TestCheckStackGood(t *testing.T) {
	for _, s := range []api.Stack{{Name: "a"}, web(), full()} {
		if err := lang.CheckStack(s); err != nil {
			t.Errorf("CheckStack(%+v) = %v, want none", s, err)
		}
	}
}

func checkStacks(t *testing.T, want error, cases []api.Stack) {
	t.Helper()
	for i, s := range cases {
		if err := lang.CheckStack(s); err != want {
			t.Errorf("case %d: CheckStack = %v, want %v", i, err, want)
		}
		if got, err := lang.Print([]api.Stack{{Name: "a"}, s}); got != "" || err != want {
			t.Errorf("case %d: Print = %q, %v, want no text, %v", i, got, err, want)
		}
	}
}

// C4: the stack's name, then how many there are, ahead of all else.
func TestCheckStackCounts(t *testing.T) {
	checkStacks(t, api.ErrShape, []api.Stack{{}, {Name: "A"}, {Name: "9"}, {Name: "abcdefghijklm"}, {Name: "a b", Inputs: inputs(9)}, {Name: "", Outputs: outputs(9)}})
	checkStacks(t, api.ErrMany, []api.Stack{
		{Name: "a", Inputs: inputs(9)}, {Name: "a", Resources: resources(9)}, {Name: "a", Outputs: outputs(9)}, {Name: "a", Inputs: inputs(1), Outputs: outputs(1000)}, {Name: "a", Inputs: inputs(1), Resources: resources(9)},
	})
}

// C4
func TestCheckStackInputs(t *testing.T) {
	stack := func(l ...api.Input) api.Stack { return api.Stack{Name: "a", Inputs: l} }
	cases := []api.Stack{stack(api.Input{}), stack(api.Input{Name: "A"}), stack(api.Input{Name: "a"}, api.Input{Name: "9"})}
	for _, v := range wrongLits() {
		cases = append(cases, stack(api.Input{Name: "a"}, api.Input{Name: "b", V: v}))
	}
	first := stack(api.Input{Name: "A"})
	first.Resources = []api.Resource{{Kind: "a", Name: "a", Parts: make([]api.Part, 7)}}
	checkStacks(t, api.ErrShape, append(cases, first))
}

// C4
func TestCheckStackResources(t *testing.T) {
	stack := func(l ...api.Resource) api.Stack { return api.Stack{Name: "a", Resources: l} }
	vm := func(l ...api.Part) api.Resource { return api.Resource{Kind: "vm", Name: "a", Parts: l} }
	part := func(name string, e api.Expr) api.Part { return api.Part{Name: name, E: e} }
	seven := make([]api.Part, api.MaxFields+1)
	deep := nested(one(), api.MaxDeep)
	checkStacks(t, api.ErrShape, []api.Stack{
		stack(api.Resource{}), stack(api.Resource{Kind: "a"}), stack(api.Resource{Name: "a"}), stack(api.Resource{Kind: "A", Name: "a", Parts: seven}), stack(api.Resource{Kind: "a", Name: "9", Parts: seven}), stack(vm(), api.Resource{}),
		stack(vm(part("", one()))), stack(vm(part("A", deep))), stack(vm(part("a", one()), part("a", one()))), stack(vm(part("b", one()), part("a", deep))), stack(vm(part("a", one()), part("c", one()), part("b", one()))), stack(vm(part("a0", one()), part("a", one()))),
		stack(vm(part("a", api.Expr{}))), stack(vm(part("a", one()), part("b", lit(flag(2))))), stack(vm(part("a", api.Expr{}), part("b", deep))), stack(vm(part("a", api.Expr{})), vm(seven...)),
	})
	checkStacks(t, api.ErrMany, []api.Stack{
		stack(vm(seven...)), stack(vm(part("a", one())), vm(seven...)), stack(vm(seven...), api.Resource{}), stack(vm(part("a", deep))), stack(vm(part("a", deep), part("A", one()))), stack(vm(part("a", items(ones(api.MaxParts)...)))), stack(vm(part("a", endless()))),
	})
}

// C4
func TestCheckStackOutputs(t *testing.T) {
	stack := func(l ...api.Output) api.Stack { return api.Stack{Name: "a", Outputs: l} }
	deep := nested(one(), api.MaxDeep)
	last := stack(api.Output{Name: "a", E: deep})
	last.Resources = resources(1)
	checkStacks(t, api.ErrShape, []api.Stack{
		stack(api.Output{}), stack(api.Output{Name: "A", E: deep}), stack(api.Output{Name: "a"}), stack(api.Output{Name: "a", E: one()}, api.Output{Name: "b", E: parts("a")}), stack(api.Output{Name: "a"}, api.Output{Name: "b", E: deep}), last,
	})
	checkStacks(t, api.ErrMany, []api.Stack{stack(api.Output{Name: "a", E: deep}), stack(api.Output{Name: "a", E: deep}, api.Output{}), stack(api.Output{Name: "b", E: one()}, api.Output{Name: "a", E: endless()})})
}

// odd: a stack that is none, with lists wherever they can be.
func odd() api.Stack {
	return api.Stack{Name: "A",
		Inputs:    []api.Input{{Name: "", V: api.Value{Kind: api.List, L: []api.Value{num(1)}}}},
		Resources: []api.Resource{{Kind: "K", Parts: []api.Part{{Name: "b", E: anything()}, {Name: "a"}}}},
		Outputs:   []api.Output{{Name: "", E: anything()}}}
}

// C4, Z2
func TestCopy(t *testing.T) {
	for _, s := range []api.Stack{{}, web(), full(), odd()} {
		if got := lang.Copy(s); !reflect.DeepEqual(got, s) {
			t.Errorf("Copy = %+v, want %+v", got, s)
		}
	}
	s := odd()
	c := lang.Copy(s)
	c.Inputs[0].V.L[0], c.Resources[0].Parts[0].E.A[0].A[0], c.Resources[0].Parts[0].E.N[0], c.Outputs[0].E.A[0] = num(9), in("z"), "z", in("z")
	c.Inputs[0].Name, c.Resources[0].Parts[0].Name, c.Resources[0].Kind, c.Outputs[0].Name = "z", "z", "z", "z"
	if !reflect.DeepEqual(s, odd()) {
		t.Errorf("what was copied is %+v behind a change of its copy", s)
	}
	l := []api.Input{{Name: "a"}, {Name: "b"}}
	part := lang.Copy(api.Stack{Inputs: l[:1]})
	part.Inputs = append(part.Inputs, api.Input{Name: "x"})
	if l[1].Name != "b" {
		t.Error("what stands behind a list was written into")
	}
}

// C5
func TestPrint(t *testing.T) {
	cases := []struct {
		l    []api.Stack
		want string
	}{
		{nil, ""}, {[]api.Stack{}, ""}, {[]api.Stack{{Name: "a"}}, "stack a\n"}, {[]api.Stack{{Name: "b"}, {Name: "a"}, {Name: "a"}}, "stack b\nstack a\nstack a\n"},
		{[]api.Stack{web()}, webText}, {[]api.Stack{web(), {Name: "a"}, web()}, webText + "stack a\n" + webText},
		{make8("x"), strings.Repeat("stack x\n", api.MaxStacks)},
	}
	for _, c := range cases {
		if got, err := lang.Print(c.l); got != c.want || err != nil {
			t.Errorf("Print = %s, %v, want %s", got, err, c.want)
		}
	}
}

// make8: as many stacks of that name as there may be.
func make8(name string) []api.Stack {
	l := make([]api.Stack, api.MaxStacks)
	for i := range l {
		l[i].Name = name
	}
	return l
}

// sized: stacks whose text has so many bytes.
func sized(size int) []api.Stack {
	l := make8("a")
	size -= api.MaxStacks * (len("stack a\n") + api.MaxItems*len("input a = \"\"\n"))
	for i := range l {
		for range api.MaxItems {
			var b []byte
			for len(b) < api.MaxText && size >= 4 {
				b, size = append(b, 0), size-4
			}
			for len(b) < api.MaxText && size > 0 {
				b, size = append(b, 'x'), size-1
			}
			l[i].Inputs = append(l[i].Inputs, api.Input{Name: "a", V: text(string(b))})
		}
	}
	return l
}

// C5: too many stacks, then what CheckStack says of each in order, then too many bytes.
func TestPrintWrong(t *testing.T) {
	bad := func(l []api.Stack, i int, s api.Stack) []api.Stack {
		l[i] = s
		return l
	}
	cases := []struct {
		l    []api.Stack
		want error
	}{
		{make([]api.Stack, 9), api.ErrMany}, {append(make8("a"), api.Stack{Name: "a"}), api.ErrMany}, {make([]api.Stack, 8), api.ErrShape},
		{bad(make8("a"), 7, api.Stack{}), api.ErrShape}, {bad(bad(make8("a"), 7, api.Stack{}), 5, api.Stack{Name: "a", Inputs: inputs(9)}), api.ErrMany}, {bad(bad(make8("a"), 5, api.Stack{}), 7, api.Stack{Name: "a", Inputs: inputs(9)}), api.ErrShape},
		{sized(api.MaxWork + 1), api.ErrMany}, {sized(9000), api.ErrMany}, {bad(sized(9000), 7, api.Stack{}), api.ErrShape},
	}
	for i, c := range cases {
		if got, err := lang.Print(c.l); got != "" || err != c.want {
			t.Errorf("case %d: Print = %.40q, %v, want no text, %v", i, got, err, c.want)
		}
	}
}

// C5, C6, W7: as many bytes as there may be are written, and read.
func TestMostBytes(t *testing.T) {
	for _, size := range []int{api.MaxWork - 1, api.MaxWork} {
		s, err := lang.Print(sized(size))
		if len(s) != size || err != nil {
			t.Fatalf("Print = %d bytes, %v, want %d", len(s), err, size)
		}
		if got, at, err := lang.Read(s); !sameStacks(got, sized(size)) || at != 0 || err != nil {
			t.Errorf("Read of %d bytes = %d stacks, %d, %v", size, len(got), at, err)
		}
	}
}

// C6, W7
func TestRead(t *testing.T) {
	full := make8("a")
	full[3] = web()
	fullText := strings.Repeat("stack a ", 3) + webText + strings.Repeat("stack a ", 4)
	cases := []struct {
		s    string
		want []api.Stack
	}{
		{"", nil}, {" # x\n ", nil}, {"stack a", []api.Stack{{Name: "a"}}}, {"stack stack stack input", []api.Stack{{Name: "stack"}, {Name: "input"}}}, {`stack "a"`, []api.Stack{{Name: "a"}}},
		{webText, []api.Stack{web()}}, {webText + "stack a\n" + webText, []api.Stack{web(), {Name: "a"}, web()}}, {strings.ReplaceAll(webText, "\n", " "), []api.Stack{web()}}, {strings.ReplaceAll(webText, "\n", " # x\n\n"), []api.Stack{web()}},
		{fullText, full},
		{"stack a output o=in.a stack b", []api.Stack{{Name: "a", Outputs: []api.Output{{Name: "o", E: in("a")}}}, {Name: "b"}}},
		{"stack a output o = get in.a stack stack b", []api.Stack{{Name: "a", Outputs: []api.Output{{Name: "o", E: pick(in("a"), "stack")}}}, {Name: "b"}}},
		{"stack a input i = - 5 output o = 1", []api.Stack{{Name: "a", Inputs: []api.Input{{Name: "i", V: num(-5)}}, Outputs: []api.Output{{Name: "o", E: one()}}}}},
		{"stack a resource input output{stack:1}", []api.Stack{{Name: "a", Resources: []api.Resource{{Kind: "input", Name: "output", Parts: []api.Part{{Name: "stack", E: one()}}}}}}},
	}
	for _, c := range cases {
		if got, at, err := lang.Read(c.s); !sameStacks(got, c.want) || at != 0 || err != nil {
			t.Errorf("Read(%.200q) = %+v, %d, %v, want %+v", c.s, got, at, err, c.want)
		}
	}
}

// checkRead: Z1 as well: no stacks beside an error.
func checkRead(t *testing.T, cases []marked) {
	t.Helper()
	for _, c := range cases {
		s, at := c.unmarked()
		got, where, err := lang.Read(s)
		if len(got) != 0 || where != at || err != c.want {
			t.Errorf("Read(%.200q) = %+v, %d, %v, want none, %d, %v", s, got, where, err, at, c.want)
		}
	}
}

// C6: what Tokens says comes first.
func TestReadTokens(t *testing.T) {
	checkRead(t, []marked{
		{"stack a ^!", api.ErrSign}, {") ^!", api.ErrSign}, {"stack ^abcdefghijklm", api.ErrBound}, {"stack a input b = ^01", api.ErrBound}, {"stack a input b = ^\"x", api.ErrSign},
		{"^" + strings.Repeat(" ", api.MaxWork+1), api.ErrMany}, {"^stack a\n" + strings.Repeat("!", api.MaxWork), api.ErrMany},
	})
}

// C6: another token than the one that is wanted.
func TestReadWanted(t *testing.T) {
	checkRead(t, []marked{
		{"^a", api.ErrText}, {" ^=", api.ErrText}, {"^\"stack\" a", api.ErrText}, {"^input a = 1", api.ErrText}, {"stack^", api.ErrText}, {"stack  ^", api.ErrText}, {"stack ^1", api.ErrText}, {"stack ^\"A\"", api.ErrText}, {"stack a ^b", api.ErrText}, {"stack a ^=", api.ErrText}, {"stack a ^\"input\" b = 1", api.ErrText},
		{"stack a input^", api.ErrText}, {"stack a input ^= 1", api.ErrText}, {"stack a input b^", api.ErrText}, {"stack a input b ^1", api.ErrText}, {"stack a input b ^== 1", api.ErrText}, {"stack a input b ^\"=\" 1", api.ErrText}, {"stack a input b =^", api.ErrText}, {"stack a input b = ^input", api.ErrText}, {"stack a input b = 1 ^1", api.ErrText},
		{"stack a resource^", api.ErrText}, {"stack a resource ^{", api.ErrText}, {"stack a resource b^", api.ErrText}, {"stack a resource b ^{", api.ErrText}, {"stack a resource b c^", api.ErrText}, {"stack a resource b c ^[", api.ErrText}, {"stack a resource b c {^", api.ErrText}, {"stack a resource b c {^,", api.ErrText}, {"stack a resource b c {^1", api.ErrText}, {"stack a resource b c { d^", api.ErrText}, {"stack a resource b c { d ^}", api.ErrText}, {"stack a resource b c { d ^= 1 }", api.ErrText}, {"stack a resource b c { d:^", api.ErrText}, {"stack a resource b c { d: ^}", api.ErrText}, {"stack a resource b c { d: 1^", api.ErrText}, {"stack a resource b c { d: 1 ^e: 1 }", api.ErrText}, {"stack a resource b c { d: 1, ^}", api.ErrText}, {"stack a resource b c { } ^}", api.ErrText},
		{"stack a output^", api.ErrText}, {"stack a output b^", api.ErrText}, {"stack a output b ^: 1", api.ErrText}, {"stack a output b =^", api.ErrText}, {"stack a output b = ^output", api.ErrText}, {"stack a output b = 1 ^,", api.ErrText},
	})
}

// C6: inputs, then resources, then outputs.
func TestReadOrder(t *testing.T) {
	checkRead(t, []marked{
		{"stack a resource b c { } ^input d = 1", api.ErrText}, {"stack a output b = 1 ^input d = 1", api.ErrText}, {"stack a output b = 1 ^resource b c { }", api.ErrText}, {"stack a input b = 1 ^stacks c", api.ErrText},
	})
}

// C6: of expressions the same is told as by Parse; of inputs also those that are no Lit.
func TestReadExprs(t *testing.T) {
	many := "[1" + strings.Repeat(", 1", api.MaxParts-1) + "]"
	wrong := []marked{
		{"(1 ^)", api.ErrText}, {"^1000000001", api.ErrBound}, {"-^0", api.ErrBound}, {"{b: 1, a^: 1}", api.ErrShape}, {"[[[[[[^1]]]]]]", api.ErrMany}, {"^" + many, api.ErrMany}, {"^" + many + " )", api.ErrMany}, {many[:len(many)-1] + " ^)", api.ErrText},
	}
	for _, c := range wrong {
		checkRead(t, []marked{
			{"stack a output b = " + c.s, c.want}, {"stack a output b = 1 output c = " + c.s + " output", c.want}, {"stack a resource b c { d: " + c.s + "}", c.want}, {"stack a resource b c { d: 1, e: " + c.s, c.want}, {"stack a input b = " + c.s, c.want}, {"stack a stack b input c = 1 input b = " + c.s + " stack", c.want},
		})
	}
	for _, s := range []string{"in.a", "res.a.b", "stack.a.b", "(1 + 1)", "(1 == 1)", "(1 ? 1 : 1)", "[]", "{}", "get {a: 1} a"} {
		checkRead(t, []marked{{"stack a input b = ^" + s, api.ErrText}, {"stack a input b = 1 input b = ^" + s + " )", api.ErrText}})
	}
}

// C6: one more than there may be is told where it begins.
func TestReadMany(t *testing.T) {
	stacks := strings.Repeat("stack a ", api.MaxStacks)
	most := func(s string) string { return "stack a " + strings.Repeat(s, api.MaxItems) }
	var fields strings.Builder
	for i := range api.MaxFields {
		fields.WriteString(letter(i) + ": 1, ")
	}
	parts := "stack a resource b c { " + fields.String()
	checkRead(t, []marked{
		{stacks + "^stack b", api.ErrMany}, {stacks + "^stack", api.ErrMany}, {stacks + "^stack )", api.ErrMany}, {stacks + "^b", api.ErrText}, {stacks + "^)", api.ErrText},
		{most("input b = 1 ") + "^input b = 1", api.ErrMany}, {most("input b = 1 ") + "^input", api.ErrMany}, {most("input b = 1 ") + "^b", api.ErrText},
		{most("resource b c { } ") + "^resource b c { }", api.ErrMany}, {most("resource b c { } ") + "^resource )", api.ErrMany},
		{most("output b = 1 ") + "^output b = 1", api.ErrMany}, {most("output b = 1 ") + "^output", api.ErrMany},
		{parts + "^g: 1 }", api.ErrMany}, {parts + "^a: 1 }", api.ErrMany}, {parts + "^g", api.ErrMany}, {parts + "^}", api.ErrText}, {parts + "^1", api.ErrText},
	})
	for _, s := range []string{stacks, most("input b = 1 "), most("resource b c { } "), most("output b = 1 "), strings.TrimSuffix(parts, ", ") + "}"} {
		if _, at, err := lang.Read(s); at != 0 || err != nil {
			t.Errorf("Read(%q) = %d, %v, want no error", s, at, err)
		}
	}
}

// C6: names of parts rise.
func TestReadParts(t *testing.T) {
	checkRead(t, []marked{
		{"stack a resource b c { d: 1, c^: 1 }", api.ErrShape}, {"stack a resource b c { d: 1, d ^: 1 }", api.ErrShape}, {"stack a resource b c { d: 1, c^", api.ErrShape}, {"stack a resource b c { d: 1, c ^)", api.ErrShape}, {"stack a resource b c { c: 1, e: 1, d^: 1 }", api.ErrShape}, {"stack a resource b c { d: ^), c: 1 }", api.ErrText},
	})
}

// dice: numbers that look drawn, the same each time.
type dice uint64

func (d *dice) below(n int) int {
	*d = *d*6364136223846793005 + 1442695040888963407
	return int(uint64(*d>>33) % uint64(n))
}

func (d *dice) name() string {
	return []string{"a", "b9", "in", "stack", "null", "abcdefghijkl"}[d.below(6)]
}

func (d *dice) plain() api.Value {
	switch d.below(4) {
	case 0:
		return num(d.below(2*api.MaxNumber+1) - api.MaxNumber)
	case 1:
		b := make([]byte, d.below(api.MaxText+1))
		for i := range b {
			b[i] = byte(d.below(256))
		}
		return text(string(b))
	case 2:
		return flag(d.below(2))
	}
	return api.Value{}
}

// expr: one whose depth is at most deep.
func (d *dice) expr(deep int) api.Expr {
	kind := 1 + d.below(10)
	if deep == 1 {
		kind = 1 + d.below(4)
	}
	sub := func() api.Expr { return d.expr(deep - 1) }
	switch kind {
	case api.Lit:
		return lit(d.plain())
	case api.In:
		return in(d.name())
	case api.Of:
		return of(d.name(), d.name())
	case api.From:
		return from(d.name(), d.name())
	case api.Plus:
		return plus(sub(), sub())
	case api.Same:
		return same(sub(), sub())
	case api.If:
		return choice(sub(), sub(), sub())
	case api.Items:
		e := items()
		for range d.below(4) {
			e.A = append(e.A, sub())
		}
		return e
	case api.Parts:
		return parts("a get", sub(), sub())
	}
	return pick(sub(), d.name())
}

func (d *dice) stack() api.Stack {
	s := api.Stack{Name: d.name()}
	for range d.below(3) {
		s.Inputs = append(s.Inputs, api.Input{Name: d.name(), V: d.plain()})
	}
	for range d.below(3) {
		r := api.Resource{Kind: d.name(), Name: d.name()}
		for i := range d.below(3) {
			r.Parts = append(r.Parts, api.Part{Name: letter(i), E: d.expr(3)})
		}
		s.Resources = append(s.Resources, r)
	}
	for range d.below(3) {
		s.Outputs = append(s.Outputs, api.Output{Name: d.name(), E: d.expr(3)})
	}
	return s
}

// W7
func TestWrittenIsRead(t *testing.T) {
	d, read := dice(1), 0
	for range 3000 {
		e := d.expr(1 + d.below(api.MaxDeep))
		s, err := lang.Text(e)
		if err != nil || len(s) > api.MaxWork {
			continue
		}
		read++
		if got, at, err := lang.Parse(s); !alike(got, e) || at != 0 || err != nil {
			t.Fatalf("Parse(%s) = %+v, %d, %v, want %+v", s, got, at, err, e)
		}
	}
	for range 1000 {
		var l []api.Stack
		for range d.below(4) {
			l = append(l, d.stack())
		}
		s, err := lang.Print(l)
		if err != nil {
			continue
		}
		read++
		if got, at, err := lang.Read(s); !sameStacks(got, l) || at != 0 || err != nil {
			t.Fatalf("Read(%s) = %+v, %d, %v, want %+v", s, got, at, err, l)
		}
	}
	if read < 3000 {
		t.Errorf("only %d were written", read)
	}
}

// Z2: nothing that is handed in is written into.
func TestHandedInStays(t *testing.T) {
	s, e := web(), anything()
	lang.Check(e)
	lang.CopyExpr(e)
	lang.Text(e)
	lang.CheckStack(s)
	lang.Copy(s)
	lang.Print([]api.Stack{s, odd()})
	if !reflect.DeepEqual(s, web()) || !reflect.DeepEqual(e, anything()) {
		t.Errorf("what was handed in is %+v, %+v", s, e)
	}
}

// Z3: errors are bare numbers of package api.
func TestErrorsAreBare(t *testing.T) {
	_, textErr := lang.Text(api.Expr{})
	_, _, parseErr := lang.Parse("(")
	_, _, signErr := lang.Parse("!")
	_, printErr := lang.Print(make([]api.Stack, 9))
	_, _, readErr := lang.Read("stack")
	for i, err := range []error{lang.Check(api.Expr{}), lang.Check(endless()), textErr, parseErr, signErr, lang.CheckStack(api.Stack{}), printErr, readErr} {
		if _, is := err.(api.Errno); !is {
			t.Errorf("error %s: %T is no api.Errno", strconv.Itoa(i), err)
		}
	}
}

// Z1, W7: whatever bytes there are, it ends, what it tells lies in the text, and what it reads is written and read again.
func FuzzRead(f *testing.F) {
	for _, s := range []string{webText, "stack a resource b c { b: 1, a", "stack a input b = [", "stack"} {
		f.Add(s)
	}
	f.Fuzz(func(t *testing.T, s string) {
		l, at, err := lang.Read(s)
		if at < 0 || at > len(s) || err == nil && at != 0 || err != nil && len(l) > 0 {
			t.Fatalf("Read(%q) = %+v, %d, %v", s, l, at, err)
		}
		if err != nil {
			return
		}
		written, err := lang.Print(l)
		if err == api.ErrMany { // it may be longer than what was read
			return
		}
		again, _, err := lang.Read(written)
		if err != nil || !sameStacks(again, l) {
			t.Fatalf("Read(%q) = %+v, %v, want %+v", written, again, err, l)
		}
	})
}
