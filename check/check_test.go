package check_test

import (
	"reflect"
	"slices"
	"strings"
	"testing"

	"wavewright/api"
	"wavewright/check"
	"wavewright/lang"
)

func read(t *testing.T, s string) []api.Stack {
	t.Helper()
	l, at, err := lang.Read(s)
	if err != nil {
		t.Fatalf("Read(%s) = %v at %d", s, err, at)
	}
	return l
}

// isZero: has it nothing?
func isZero(w api.Work) bool { return len(w.Stacks) == 0 && len(w.Needs) == 0 && len(w.Order) == 0 }

func sameLists(a, b [][]int) bool { return slices.EqualFunc(a, b, slices.Equal) }

// sameStacks: are they written alike?
func sameStacks(t *testing.T, a, b []api.Stack) bool {
	t.Helper()
	x, err := lang.Print(a)
	y, other := lang.Print(b)
	if err != nil || other != nil {
		t.Fatalf("Print = %v, %v", err, other)
	}
	return x == y
}

const site = `
stack base
input size = 3
resource net main { size: in.size }
output id = res.main.id
stack web
resource vm one { net: stack.base.id, size: (1 + 2) }
resource disk two { on: res.one.id }
output big = (res.one.size == 3)
`

type good struct {
	s            string
	needs, order [][]int
}

func checkGood(t *testing.T, cases []good) {
	t.Helper()
	for _, c := range cases {
		l := read(t, c.s)
		w, err := check.Check(l)
		if err != nil || !sameStacks(t, w.Stacks, l) || !sameLists(w.Needs, c.needs) || !sameLists(w.Order, c.order) {
			t.Errorf("Check(%s) = %+v, %v, want %v, %v", c.s, w, err, c.needs, c.order)
		}
	}
}

// E1, E2
func TestGood(t *testing.T) {
	checkGood(t, []good{
		{"", nil, nil},
		{"stack a", [][]int{nil}, [][]int{nil}},
		{"stack a stack b stack c", [][]int{nil, nil, nil}, [][]int{nil, nil, nil}},
		{site, [][]int{nil, {0}}, [][]int{{0}, {0, 1}}},
		{"stack a input b = 1 output o = in.b", [][]int{nil}, [][]int{nil}},
		// each of its own kind, and of its own stack
		{"stack a input a = 1 resource a a { a: in.a } output a = res.a.a stack b input a = 1 resource a a { } output a = stack.a.a", [][]int{nil, {0}}, [][]int{{0}, {0}}},
		// the fields of a resource are nobody's here, and an output may be named that nobody needs
		{"stack a resource b c { } output o = res.c.none", [][]int{nil}, [][]int{{0}}},
		{"stack a output o = get {o: {}} none", [][]int{nil}, [][]int{nil}},
	})
}

// E2: as they are named first, none twice.
func TestNeeds(t *testing.T) {
	ends := " stack x output o = 1 output p = 2 stack y output o = 1 stack z output o = 1"
	checkGood(t, []good{
		{"stack a output o = stack.z.o output p = stack.x.o" + ends, [][]int{{3, 1}, nil, nil, nil}, [][]int{nil, nil, nil, nil}},
		{"stack a output o = stack.x.p output p = stack.z.o output q = stack.x.o" + ends, [][]int{{1, 3}, nil, nil, nil}, [][]int{nil, nil, nil, nil}},
		// resource by resource as they stand, whatever their order is, part by part; then outputs
		{"stack a resource r one { n: res.two.id, o: stack.z.o } resource r two { a: stack.y.o, b: stack.x.o } output o = stack.x.o" + ends, [][]int{{3, 2, 1}, nil, nil, nil}, [][]int{{1, 0}, nil, nil, nil}},
		{"stack a resource r one { a: stack.y.o } output o = stack.x.o output p = stack.z.o" + ends, [][]int{{2, 1, 3}, nil, nil, nil}, [][]int{{0}, nil, nil, nil}},
		// within expressions of every Kind, from the first to the last
		{"stack a output o = (stack.z.o + stack.x.o)" + ends, [][]int{{3, 1}, nil, nil, nil}, [][]int{nil, nil, nil, nil}},
		{"stack a output o = (stack.y.o == stack.x.o)" + ends, [][]int{{2, 1}, nil, nil, nil}, [][]int{nil, nil, nil, nil}},
		{"stack a output o = (stack.y.o ? stack.z.o : stack.x.o)" + ends, [][]int{{2, 3, 1}, nil, nil, nil}, [][]int{nil, nil, nil, nil}},
		{"stack a output o = [[stack.z.o], 1, stack.y.o]" + ends, [][]int{{3, 2}, nil, nil, nil}, [][]int{nil, nil, nil, nil}},
		{"stack a output o = {a: stack.y.o, b: {c: stack.x.o}, c: stack.z.o}" + ends, [][]int{{2, 1, 3}, nil, nil, nil}, [][]int{nil, nil, nil, nil}},
		{"stack a output o = get {a: stack.x.o} a" + ends, [][]int{{1}, nil, nil, nil}, [][]int{nil, nil, nil, nil}},
		// also of stacks that stand behind, over one another, and with names like those of what is here
		{"stack a output o = stack.b.o stack b output o = stack.c.o stack c output o = 1", [][]int{{1}, {2}, nil}, [][]int{nil, nil, nil}},
		{"stack c output o = 1 stack b output o = stack.c.o stack a output o = [stack.b.o, stack.c.o]", [][]int{nil, {0}, {1, 0}}, [][]int{nil, nil, nil}},
	})
}

// E2: the order of resources is that of a graph.
func TestOrder(t *testing.T) {
	checkGood(t, []good{
		{"stack a resource r a { } resource r b { } resource r c { }", [][]int{nil}, [][]int{{0, 1, 2}}},
		{"stack a resource r a { x: res.b.id } resource r b { x: res.c.id } resource r c { }", [][]int{nil}, [][]int{{2, 1, 0}}},
		{"stack a resource r d { x: res.b.id } resource r c { x: res.d.id } resource r b { } resource r a { }", [][]int{nil}, [][]int{{2, 3, 0, 1}}},
		{"stack a resource r a { x: 1, y: [res.c.id, res.b.id] } resource r b { x: res.c.id, y: res.c.id } resource r c { }", [][]int{nil}, [][]int{{2, 1, 0}}},
		// within expressions of every Kind
		{"stack a resource r a { x: (1 + res.g.x) } resource r b { x: (1 == res.g.x) } resource r c { x: (1 ? 2 : res.g.x) } resource r d { x: [1, res.g.x] } resource r e { x: {a: 1, b: res.g.x} } resource r f { x: get res.g.x a } resource r g { }", [][]int{nil}, [][]int{{6, 0, 1, 2, 3, 4, 5}}},
		// an output may name them all, and none needs it
		{"stack a resource r a { x: res.b.id } resource r b { } output o = [res.a.id, res.b.id]", [][]int{nil}, [][]int{{1, 0}}},
		// of each stack its own
		{"stack a resource r a { x: res.b.id } resource r b { } stack b resource r a { } resource r b { x: res.a.id }", [][]int{nil, nil}, [][]int{{1, 0}, {0, 1}}},
	})
}

type wrong struct {
	s    string
	want error
}

func checkWrong(t *testing.T, cases []wrong) {
	t.Helper()
	for _, c := range cases {
		if w, err := check.Check(read(t, c.s)); !isZero(w) || err != c.want {
			t.Errorf("Check(%s) = %+v, %v, want none, %v", c.s, w, err, c.want)
		}
	}
}

// E1
func TestExist(t *testing.T) {
	checkWrong(t, []wrong{
		{"stack a stack a", api.ErrExist}, {"stack a stack b stack c stack b", api.ErrExist}, {site + "stack base", api.ErrExist},
		{"stack a input b = 1 input b = 1", api.ErrExist}, {"stack a input b = 1 input c = 1 input b = 2", api.ErrExist}, {"stack b stack a input b = 1 input b = 1", api.ErrExist},
		{"stack a resource r b { } resource r b { }", api.ErrExist}, {"stack a resource r b { } resource r c { } resource s b { }", api.ErrExist},
		{"stack a output b = 1 output b = 1", api.ErrExist}, {"stack a output b = 1 output c = 1 output b = 1", api.ErrExist},
	})
	checkGood(t, []good{{"stack a input a = 1 resource a a { } resource a b { } output a = 1 stack b input a = 1 resource a a { } output a = 1", [][]int{nil, nil}, [][]int{{0, 1}, {0}}}})
}

// E1: in parts of resources and in outputs, however deep.
func TestNone(t *testing.T) {
	names := []string{"in.x", "res.x.id", "in.b", "in.o", "res.i.id", "res.o.id", "res.r.id", "res.a.id", "stack.x.o", "stack.b.x", "stack.b.i", "stack.b.b", "stack.i.o", "stack.r.o", "stack.a.x", "in.far", "res.far.id"}
	within := []string{"@", "(@ + 1)", "(1 + @)", "(@ == 1)", "(1 == @)", "(@ ? 1 : 1)", "(true ? @ : 1)", "(true ? 1 : @)", "[1, @]", "{a: 1, b: @}", "get @ a", "[[[[@]]]]"}
	for _, n := range names {
		for _, s := range within {
			e := strings.Replace(s, "@", n, 1)
			checkWrong(t, []wrong{
				{"stack a input i = 1 resource r b { p: 1, q: " + e + " } output o = 1 stack b input far = 1 resource r far { } output o = 1", api.ErrNone},
				{"stack b input far = 1 resource r far { } output o = 1 stack a input i = 1 resource r c { } resource r b { p: " + e + " } output o = 1", api.ErrNone},
				{"stack b input far = 1 resource r far { } output o = 1 stack a input i = 1 resource r b { } output o = 1 output p = " + e, api.ErrNone},
			})
		}
	}
}

// E1: a resource that needs itself, over however many.
func TestResourceCycle(t *testing.T) {
	checkWrong(t, []wrong{
		{"stack a resource r b { x: res.b.id }", api.ErrCycle}, {"stack a resource r b { x: [1, {a: res.b.id}] }", api.ErrCycle},
		{"stack a resource r b { x: res.c.id } resource r c { x: res.b.id }", api.ErrCycle}, {"stack a resource r b { x: res.c.id } resource r c { x: res.d.id } resource r d { x: 1, y: (1 + res.b.x) } resource r e { }", api.ErrCycle},
		{"stack a resource r b { } stack c resource r b { x: res.c.id } resource r c { x: res.b.id }", api.ErrCycle},
		{"stack a resource r a { x: res.h.id } resource r b { x: res.a.id } resource r c { x: res.b.id } resource r d { x: res.c.id } resource r e { x: res.d.id } resource r f { x: res.e.id } resource r g { x: res.f.id } resource r h { x: res.g.id }", api.ErrCycle},
	})
}

// E1: a stack that does.
func TestStackCycle(t *testing.T) {
	checkWrong(t, []wrong{
		{"stack a output o = stack.a.o", api.ErrCycle}, {"stack a output o = 1 output p = stack.a.o", api.ErrCycle}, {"stack a resource r b { x: stack.a.o } output o = 1", api.ErrCycle},
		{"stack a output o = stack.b.o stack b output o = stack.a.o", api.ErrCycle},
		// also where the outputs by themselves would do
		{"stack a output o = 1 output p = stack.b.o stack b output o = stack.a.o", api.ErrCycle},
		{"stack a output o = stack.b.o stack b resource r c { x: stack.c.o } output o = 1 stack c output o = 1 output p = [stack.a.o] stack d", api.ErrCycle},
		{"stack z stack a output o = stack.h.o stack b output o = stack.a.o stack c output o = stack.b.o stack d output o = stack.c.o stack e output o = stack.d.o stack f output o = stack.e.o stack h output o = stack.f.o", api.ErrCycle},
	})
}

// E1: the one named first is told.
func TestFirstError(t *testing.T) {
	checkWrong(t, []wrong{
		{"stack a output o = in.x stack a", api.ErrExist}, {"stack a output o = in.x stack b output o = 1 output o = 1", api.ErrExist}, {"stack a resource r b { x: res.b.id } stack b input i = 1 input i = 1", api.ErrExist},
		{"stack a output o = stack.a.o stack a", api.ErrExist},
		{"stack a resource r b { x: res.b.id } stack b output o = in.x", api.ErrNone}, {"stack a resource r b { x: res.b.id } output o = in.x", api.ErrNone}, {"stack a output o = stack.a.o stack b output o = stack.a.x", api.ErrNone},
	})
}

// named: a stack with nothing in it.
func named(name string) api.Stack { return api.Stack{Name: name} }

// deep: an expression of so many in each other.
func deep(n int) api.Expr {
	e := api.Expr{Kind: api.Items}
	for range n - 1 {
		e = api.Expr{Kind: api.Items, A: []api.Expr{e}}
	}
	return e
}

// endless: a list that has itself in it.
func endless() api.Expr {
	l := make([]api.Expr, 2)
	l[0] = api.Expr{Kind: api.Items, A: l}
	l[1] = l[0]
	return l[0]
}

// E1: too many, then what each is by itself, ahead of all else.
func TestAlone(t *testing.T) {
	withOutput := func(e api.Expr) api.Stack {
		return api.Stack{Name: "a", Outputs: []api.Output{{Name: "o", E: e}}}
	}
	withPart := func(e api.Expr) api.Stack {
		return api.Stack{Name: "a", Resources: []api.Resource{{Kind: "r", Name: "b", Parts: []api.Part{{Name: "p", E: e}}}}}
	}
	lost := api.Expr{Kind: api.In, S: "x"}
	cases := []struct {
		l    []api.Stack
		want error
	}{
		{make([]api.Stack, api.MaxStacks+1), api.ErrMany}, {make([]api.Stack, 100000), api.ErrMany}, {slices.Repeat([]api.Stack{named("a")}, api.MaxStacks+1), api.ErrMany},
		{make([]api.Stack, api.MaxStacks), api.ErrShape}, {slices.Repeat([]api.Stack{named("a")}, api.MaxStacks), api.ErrExist},
		{[]api.Stack{{}}, api.ErrShape}, {[]api.Stack{named("A")}, api.ErrShape}, {[]api.Stack{named("a"), named("b"), named("9")}, api.ErrShape},
		{[]api.Stack{{Name: "a", Inputs: make([]api.Input, api.MaxItems+1)}}, api.ErrMany}, {[]api.Stack{{Name: "a", Inputs: []api.Input{{Name: "i", V: api.Value{Kind: api.List}}}}}, api.ErrShape},
		{[]api.Stack{withOutput(api.Expr{})}, api.ErrShape}, {[]api.Stack{withPart(api.Expr{Kind: 11})}, api.ErrShape}, {[]api.Stack{withOutput(deep(api.MaxDeep + 1))}, api.ErrMany}, {[]api.Stack{withPart(endless())}, api.ErrMany},
		// the first one's of several
		{[]api.Stack{withOutput(deep(api.MaxDeep + 1)), {}}, api.ErrMany}, {[]api.Stack{{}, withOutput(deep(api.MaxDeep + 1))}, api.ErrShape},
		// ahead of names that are there twice or not at all
		{[]api.Stack{named("a"), named("a"), {}}, api.ErrShape}, {[]api.Stack{withOutput(lost), {}}, api.ErrShape}, {[]api.Stack{withOutput(lost), withPart(deep(100000))}, api.ErrMany},
		{[]api.Stack{withPart(api.Expr{Kind: api.Of, S: "b", T: "id"}), {}}, api.ErrShape},
	}
	for i, c := range cases {
		if w, err := check.Check(c.l); !isZero(w) || err != c.want {
			t.Errorf("case %d: Check = %+v, %v, want none, %v", i, w, err, c.want)
		}
	}
	if w, err := check.Check([]api.Stack{withOutput(deep(api.MaxDeep))}); len(w.Stacks) != 1 || err != nil {
		t.Errorf("Check = %+v, %v, want one stack", w, err)
	}
}

// E1, E2: as much as there may be.
func TestMost(t *testing.T) {
	names := "abcdefgh"
	var l []api.Stack
	for i := range api.MaxStacks {
		s := named(names[i : i+1])
		for k := range api.MaxItems {
			n := names[k : k+1]
			r := api.Resource{Kind: "r", Name: n}
			for j := range min(k, api.MaxFields) {
				r.Parts = append(r.Parts, api.Part{Name: names[j : j+1], E: api.Expr{Kind: api.Of, S: names[k-1-j : k-j], T: "id"}})
			}
			s.Inputs = append(s.Inputs, api.Input{Name: n})
			s.Resources = append(s.Resources, r)
			o := api.Output{Name: n, E: api.Expr{Kind: api.In, S: n}}
			if k < i {
				o.E = api.Expr{Kind: api.From, S: names[k : k+1], T: "h"}
			}
			s.Outputs = append(s.Outputs, o)
		}
		l = append(l, s)
	}
	w, err := check.Check(l)
	if err != nil || len(w.Stacks) != api.MaxStacks {
		t.Fatalf("Check = %d stacks, %v", len(w.Stacks), err)
	}
	all := []int{0, 1, 2, 3, 4, 5, 6, 7}
	for i := range api.MaxStacks {
		if !slices.Equal(w.Needs[i], all[:i]) || !slices.Equal(w.Order[i], all) {
			t.Errorf("stack %d: %v, %v", i, w.Needs[i], w.Order[i])
		}
	}
	slices.Reverse(l)
	w, err = check.Check(l)
	if err != nil || !slices.Equal(w.Needs[0], []int{7, 6, 5, 4, 3, 2, 1}) {
		t.Errorf("turned: %v, %v", w.Needs, err)
	}
}

// full: stacks with something in every list.
func full(t *testing.T) []api.Stack {
	t.Helper()
	return read(t, site+"stack end input a = 1 resource r b { p: {a: [in.a], b: stack.web.big} } output o = stack.base.id")
}

// E2, Z2: the stacks of a work are its own, and so are its lists.
func TestWorkIsTheCallers(t *testing.T) {
	l := full(t)
	w, err := check.Check(l)
	if err != nil || !reflect.DeepEqual(l, full(t)) || !sameStacks(t, w.Stacks, l) {
		t.Fatalf("Check = %+v, %v; what was handed in is %+v", w, err, l)
	}
	s := w.Stacks[2]
	s.Inputs[0].Name, s.Outputs[0].Name, s.Outputs[0].E.S = "z", "z", "z"
	e := &s.Resources[0].Parts[0].E
	e.N[0], e.A[0].A[0].S, e.A[1].S = "z", "z", "z"
	s.Resources[0].Parts[0].Name, s.Resources[0].Name = "z", "z"
	w.Stacks[0] = named("z")
	if !reflect.DeepEqual(l, full(t)) {
		t.Errorf("what was handed in is %+v behind a change of the work", l)
	}
	for i := range w.Needs {
		w.Needs[i], w.Order[i] = append(w.Needs[i], 9), append(w.Order[i], 9)
	}
	if !sameLists(w.Needs, [][]int{{9}, {0, 9}, {1, 0, 9}}) || !sameLists(w.Order, [][]int{{0, 9}, {0, 1, 9}, {0, 9}}) {
		t.Errorf("lists of the work share memory: %v, %v", w.Needs, w.Order)
	}
	again, err := check.Check(l)
	if err != nil || !sameLists(again.Needs, [][]int{nil, {0}, {1, 0}}) || !sameLists(again.Order, [][]int{{0}, {0, 1}, {0}}) {
		t.Errorf("Check again = %+v, %v", again, err)
	}
}

// Z2: what stands behind the lists that are handed in is neither read nor written into.
func TestBehind(t *testing.T) {
	l := read(t, site+"stack a output o = in.lost")
	l[1].Outputs = append(l[1].Outputs, api.Output{Name: "big"})[:1]
	w, err := check.Check(l[:2])
	if len(w.Stacks) != 2 || err != nil {
		t.Fatalf("Check = %+v, %v, want two stacks", w, err)
	}
	w.Stacks, w.Stacks[1].Outputs = append(w.Stacks, named("z")), append(w.Stacks[1].Outputs, api.Output{Name: "z"})
	if l[2].Name != "a" || l[1].Outputs[:2][1].Name != "big" {
		t.Errorf("behind what was handed in stand %q, %q", l[2].Name, l[1].Outputs[:2][1].Name)
	}
	if w, err := check.Check(read(t, "stack a output o = in.lost")[:0]); !isZero(w) || err != nil {
		t.Errorf("Check of none = %+v, %v", w, err)
	}
}

// Z3: errors are bare numbers of package api.
func TestErrorsAreBare(t *testing.T) {
	for _, s := range []string{"stack a stack a", "stack a output o = in.x", "stack a resource r b { x: res.b.id }", "stack a output o = stack.a.o"} {
		if _, err := check.Check(read(t, s)); reflect.TypeOf(err) != reflect.TypeFor[api.Errno]() {
			t.Errorf("Check(%s): %T is no api.Errno", s, err)
		}
	}
	for _, l := range [][]api.Stack{make([]api.Stack, api.MaxStacks+1), {{}}} {
		if _, err := check.Check(l); reflect.TypeOf(err) != reflect.TypeFor[api.Errno]() {
			t.Errorf("Check of %d: %T is no api.Errno", len(l), err)
		}
	}
}
