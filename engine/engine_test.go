package engine_test

import (
	"reflect"
	"strconv"
	"strings"
	"testing"

	"wavewright/api"
	"wavewright/check"
	"wavewright/cloud"
	"wavewright/disk"
	"wavewright/engine"
	"wavewright/lang"
	"wavewright/state"
	"wavewright/value"
)

func good(t *testing.T, errs ...error) {
	t.Helper()
	for i, err := range errs {
		if err != nil {
			t.Fatalf("deed %d: %v", i, err)
		}
	}
}

// machine: a new one, with room for so many things.
func machine(t *testing.T, quota int) engine.Machine {
	t.Helper()
	d := disk.New()
	c, err := cloud.New(d, quota)
	good(t, err)
	return engine.Machine{D: d, C: c}
}

// one: the stack of a text (the last one in it), and the order of its resources.
func one(t *testing.T, s string) (api.Stack, []int) {
	t.Helper()
	l, at, err := lang.Read(s)
	if err != nil {
		t.Fatalf("Read(%s) = %v at %d", s, err, at)
	}
	w, err := check.Check(l)
	if err != nil {
		t.Fatalf("Check(%s) = %v", s, err)
	}
	last := len(l) - 1
	return w.Stacks[last], w.Order[last]
}

func text(t *testing.T, v api.Value) string {
	t.Helper()
	s, err := value.Text(v)
	good(t, err)
	return s
}

func read(t *testing.T, s string) api.Value {
	t.Helper()
	v, err := state.Value(s)
	good(t, err)
	return v
}

// things that the cloud has.
func things(t *testing.T, m engine.Machine) string {
	t.Helper()
	var l []string
	for _, x := range m.C.All() {
		l = append(l, strconv.Itoa(x.ID)+" "+x.Kind+" "+text(t, x.Attrs))
	}
	return strings.Join(l, "; ")
}

// lines of a state, without its sum.
func lines(t *testing.T, s api.State) string {
	t.Helper()
	x, err := state.Text(s)
	good(t, err)
	l := strings.Split(strings.TrimSuffix(x, "\n"), "\n")
	return strings.TrimPrefix(strings.Join(l[:len(l)-1], "; "), "serial ")
}

// saved of the stack web.
func saved(t *testing.T, m engine.Machine) string {
	t.Helper()
	s, err := state.Load(m.D, "web")
	good(t, err)
	return lines(t, s)
}

// fields told.
func fields(t *testing.T, l []api.Field) string {
	t.Helper()
	var s []string
	for _, f := range l {
		s = append(s, f.Name+" = "+text(t, f.V))
	}
	return strings.Join(s, "; ")
}

// changes told.
func changes(t *testing.T, l []api.Change) string {
	t.Helper()
	var s []string
	for _, c := range l {
		s = append(s, []string{"", "create", "update", "delete"}[c.Op]+" "+c.Held.Kind+" "+c.Held.Name+" "+strconv.Itoa(c.Held.ID)+" "+text(t, c.Held.Attrs))
	}
	return strings.Join(s, "; ")
}

// is that so?
func is(t *testing.T, what, got, want string) {
	t.Helper()
	if got != want {
		t.Errorf("%s:\n%s\nwant\n%s", what, got, want)
	}
}

// deploy a text of stacks, the last one of them.
func deploy(t *testing.T, m engine.Machine, s string) ([]api.Field, error) {
	t.Helper()
	x, order := one(t, s)
	return engine.Deploy(m, x, order, nil)
}

// deployed: without an error.
func deployed(t *testing.T, m engine.Machine, s string) string {
	t.Helper()
	l, err := deploy(t, m, s)
	if err != nil {
		t.Fatalf("Deploy(%s) = %v", s, err)
	}
	return fields(t, l)
}

// refused: with that error, and no outputs.
func refused(t *testing.T, m engine.Machine, s string, want error) {
	t.Helper()
	if l, err := deploy(t, m, s); len(l) != 0 || err != want {
		t.Errorf("Deploy(%s) = %v, %v, want nothing, %v", s, l, err, want)
	}
}

// planned: without an error.
func planned(t *testing.T, m engine.Machine, s string) string {
	t.Helper()
	x, order := one(t, s)
	l, err := engine.Plan(m, x, order, nil)
	if err != nil {
		t.Fatalf("Plan(%s) = %v", s, err)
	}
	return changes(t, l)
}

// L1, L4: what the text says is there: attributes, numbers, outputs.
func TestDeploy(t *testing.T) {
	cases := []struct{ s, things, saved, outs string }{
		{"stack web", "", "0", ""},
		{"stack web output o = 3", "", "0; out o 3", "o = 3"},
		{"stack web resource vm one { }", "1 vm {}", "1; held vm one 1 {}", ""},
		{"stack web input a = 1 input b = null input c = \"x\" resource vm one { a: in.a, b: [in.b], c: (in.c + in.c) } output o = in.c", `1 vm {a: 1, b: [null], c: "xx"}`, `1; held vm one 1 {a: 1, b: [null], c: "xx"}; out o "x"`, `o = "x"`},
		// each behind those that it needs
		{"stack web resource vm a { on: res.b.id } resource disk b { on: res.c.id } resource net c { } output o = [res.a.id, res.b.id, res.c.id]", "1 net {}; 2 disk {on: 1}; 3 vm {on: 2}", "3; held vm a 3 {on: 2}; held disk b 2 {on: 1}; held net c 1 {}; out o [3, 2, 1]", "o = [3, 2, 1]"},
		// its fields can be named as well; the number stands in the place of one that is called as it is
		{"stack web resource vm a { b: 7, id: 8, z: [9] } resource vm b { b: res.a.b, id: (res.a.id + 10), z: res.a.z } output o = [res.a.id, res.b.id, res.b.b, res.b.z]", "1 vm {b: 7, id: 8, z: [9]}; 2 vm {b: 7, id: 11, z: [9]}", "2; held vm a 1 {b: 7, id: 8, z: [9]}; held vm b 2 {b: 7, id: 11, z: [9]}; out o [1, 2, 7, [9]]", "o = [1, 2, 7, [9]]"},
		{"stack web resource vm a { a: 1 } resource vm b { z: 2 } resource vm c { id: true } output o = [res.a.id, res.b.id, res.c.id, res.a.a, res.b.z]", "1 vm {a: 1}; 2 vm {z: 2}; 3 vm {id: true}", "3; held vm a 1 {a: 1}; held vm b 2 {z: 2}; held vm c 3 {id: true}; out o [1, 2, 3, 1, 2]", "o = [1, 2, 3, 1, 2]"},
		// outputs by rising names
		{"stack web output z = 1 output a = 2 output aa = {} output m = [true]", "", "0; out a 2; out aa {}; out m [true]; out z 1", "a = 2; aa = {}; m = [true]; z = 1"},
		// nobody needs a thing that is not there
		{"stack web resource vm a { x: (true ? 1 : res.b.none) } resource vm b { }", "1 vm {}; 2 vm {x: 1}", "2; held vm a 2 {x: 1}; held vm b 1 {}", ""},
	}
	for _, c := range cases {
		m := machine(t, 12)
		for round := range 2 {
			calls := m.C.Calls()
			is(t, c.s+": outputs", deployed(t, m, c.s), c.outs)
			is(t, c.s+": things", things(t, m), c.things)
			is(t, c.s+": saved", saved(t, m), c.saved)
			if round > 0 && m.C.Calls() != calls { // W1
				t.Errorf("%s: deployed again: %d calls", c.s, m.C.Calls()-calls)
			}
			m.D.Restart(0, 0) // what was saved is kept
		}
	}
}

// L1: outputs of stacks are those that are handed in.
func TestFrom(t *testing.T) {
	m := machine(t, 12)
	s, order := one(t, "stack base output id = 1 output l = 2 stack web resource vm one { l: stack.base.l, on: stack.base.id } output o = stack.base.id")
	from := map[string]map[string]api.Value{"base": {"id": read(t, "77"), "l": read(t, `[{a: "x"}]`), "no": {Kind: 9}}, "web": {"id": {}}}
	for range 2 {
		l, err := engine.Deploy(m, s, order, from)
		good(t, err)
		is(t, "outputs", fields(t, l), "o = 77")
		is(t, "things", things(t, m), `1 vm {l: [{a: "x"}], on: 77}`)
	}
	from["base"]["id"] = read(t, "78")
	plan, err := engine.Plan(m, s, order, from)
	good(t, err)
	is(t, "plan", changes(t, plan), `update vm one 1 {l: [{a: "x"}], on: 78}`)
	// what is not there, or is no value, is an error
	for want, from := range map[error]map[string]map[string]api.Value{
		api.ErrNone:  {"base": {"l": {}}},
		api.ErrShape: {"base": {"id": {N: 1}, "l": {}}},
		api.ErrMany:  {"base": {"id": {}, "l": wide(59)}},
	} {
		if l, err := engine.Deploy(m, s, order, from); len(l) != 0 || err != want {
			t.Errorf("Deploy = %v, %v, want nothing, %v", l, err, want)
		}
		if l, err := engine.Plan(m, s, order, from); len(l) != 0 || err != want {
			t.Errorf("Plan = %v, %v, want nothing, %v", l, err, want)
		}
	}
}

// wide: a list of so many.
func wide(n int) api.Value { return api.Value{Kind: api.List, L: make([]api.Value, n)} }

// L1, L4, W2: from one text to another one.
func TestWanted(t *testing.T) {
	site := "stack web resource vm one { size: 3 } resource disk two { on: res.one.id }"
	cases := []struct {
		s, things, saved, plan string
		calls                  int
	}{
		{site, "1 vm {size: 3}; 2 disk {on: 1}", "2; held vm one 1 {size: 3}; held disk two 2 {on: 1}", "", 0},
		// other attributes
		{"stack web resource vm one { size: 4 } resource disk two { on: res.one.id }", "1 vm {size: 4}; 2 disk {on: 1}", "3; held vm one 1 {size: 4}; held disk two 2 {on: 1}", "update vm one 1 {size: 4}", 1},
		{"stack web resource vm one { size: 3, x: 1 } resource disk two { }", "1 vm {size: 3, x: 1}; 2 disk {}", "4; held vm one 1 {size: 3, x: 1}; held disk two 2 {}", "update vm one 1 {size: 3, x: 1}; update disk two 2 {}", 2},
		// another kind, the same attributes
		{"stack web resource box one { size: 3 } resource disk two { on: 1 }", "2 disk {on: 1}; 3 box {size: 3}", "4; held box one 3 {size: 3}; held disk two 2 {on: 1}", "delete vm one 1 {size: 3}; create box one 0 {size: 3}", 2},
		// what hangs on it is changed as well; a plan tells it by the number 0
		{"stack web resource box one { } resource disk two { on: res.one.id }", "2 disk {on: 3}; 3 box {}", "5; held box one 3 {}; held disk two 2 {on: 3}", "delete vm one 1 {size: 3}; create box one 0 {}; update disk two 2 {on: 0}", 3},
		// one more; one less; all others
		{site + " resource vm three { on: [res.one.id, res.two.id] }", "1 vm {size: 3}; 2 disk {on: 1}; 3 vm {on: [1, 2]}", "3; held vm one 1 {size: 3}; held vm three 3 {on: [1, 2]}; held disk two 2 {on: 1}", "create vm three 0 {on: [1, 2]}", 1},
		{"stack web resource disk two { on: 1 }", "2 disk {on: 1}", "3; held disk two 2 {on: 1}", "delete vm one 1 {size: 3}", 1},
		{"stack web", "", "4", "delete disk two 2 {on: 1}; delete vm one 1 {size: 3}", 2},
		{"stack web resource vm on { size: 3 } resource vm z { on: res.on.id }", "3 vm {size: 3}; 4 vm {on: 3}", "6; held vm on 3 {size: 3}; held vm z 4 {on: 3}", "create vm on 0 {size: 3}; create vm z 0 {on: 0}; delete disk two 2 {on: 1}; delete vm one 1 {size: 3}", 4},
		// both have each other's name
		{"stack web resource disk one { on: 1 } resource vm two { size: 3 }", "3 disk {on: 1}; 4 vm {size: 3}", "6; held disk one 3 {on: 1}; held vm two 4 {size: 3}", "delete vm one 1 {size: 3}; create disk one 0 {on: 1}; delete disk two 2 {on: 1}; create vm two 0 {size: 3}", 4},
	}
	for _, c := range cases {
		m := machine(t, 12)
		deployed(t, m, site)
		is(t, c.s+": plan", planned(t, m, c.s), c.plan)
		calls := m.C.Calls()
		deployed(t, m, c.s)
		is(t, c.s+": things", things(t, m), c.things)
		is(t, c.s+": saved", saved(t, m), c.saved)
		if n := m.C.Calls() - calls; n != c.calls {
			t.Errorf("%s: %d calls, want %d", c.s, n, c.calls)
		}
		is(t, c.s+": plan behind it", planned(t, m, c.s), "")
	}
}

// L4: what is done one behind the other: resources in order, then what is not wanted any more, the greatest name first; then outputs. The first error ends it, what was done stays.
func TestOneBehindTheOther(t *testing.T) {
	from := "stack web resource vm a { } resource vm b { } resource vm c { } resource vm d { } resource vm aa { } output o = 1"
	to := "stack web resource vm x { on: res.b.id } resource box b { } output o = 2"
	want := []string{
		"5; held vm a 1 {}; held vm aa 5 {}; held vm b 2 {}; held vm c 3 {}; held vm d 4 {}; out o 1",
		"6; held vm a 1 {}; held vm aa 5 {}; held vm c 3 {}; held vm d 4 {}; out o 1",
		"7; held vm a 1 {}; held vm aa 5 {}; held box b 6 {}; held vm c 3 {}; held vm d 4 {}; out o 1",
		"8; held vm a 1 {}; held vm aa 5 {}; held box b 6 {}; held vm c 3 {}; held vm d 4 {}; held vm x 7 {on: 6}; out o 1",
		"9; held vm a 1 {}; held vm aa 5 {}; held box b 6 {}; held vm c 3 {}; held vm x 7 {on: 6}; out o 1",
		"10; held vm a 1 {}; held vm aa 5 {}; held box b 6 {}; held vm x 7 {on: 6}; out o 1",
		"11; held vm a 1 {}; held box b 6 {}; held vm x 7 {on: 6}; out o 1",
		"12; held box b 6 {}; held vm x 7 {on: 6}; out o 2",
	}
	for i := range want {
		m := machine(t, 12)
		deployed(t, m, from)
		m.C.Fail(m.C.Calls() + i)
		if i < len(want)-1 {
			refused(t, m, to, api.ErrBusy)
		} else {
			deployed(t, m, to)
		}
		is(t, "call "+strconv.Itoa(i)+" fails: saved", saved(t, m), want[i])
		deployed(t, m, to) // W5
		is(t, "things behind all", things(t, m), "6 box {}; 7 vm {on: 6}")
	}
}

// L1, L4: wrong attributes, and wrong outputs.
func TestWrongParts(t *testing.T) {
	cases := []struct {
		s, things, saved string
		want             error
	}{
		{"stack web resource vm a { x: (1 + \"x\") }", "", "0", api.ErrKind},
		{"stack web resource vm a { x: (1000000000 + 1) }", "", "0", api.ErrBound},
		{"stack web resource vm a { x: 1 } resource vm b { x: res.a.y }", "1 vm {x: 1}", "1; held vm a 1 {x: 1}", api.ErrNone},
		{"stack web resource vm b { x: res.a.y } resource vm a { y: get 1 y } resource vm c { }", "", "0", api.ErrKind},
		// the first error, by parts
		{"stack web resource vm a { x: get {} y, z: (1 + true) }", "", "0", api.ErrNone},
		{"stack web resource vm a { x: (1 + true), z: get {} y }", "", "0", api.ErrKind},
		// the whole: what is in it may be six deep, but it may not be seven
		{"stack web resource vm a { x: 1 } resource vm b { x: [[[[1]]]] } resource vm c { x: [res.b.x] }", "1 vm {x: 1}; 2 vm {x: [[[[1]]]]}", "2; held vm a 1 {x: 1}; held vm b 2 {x: [[[[1]]]]}", api.ErrMany},
		// outputs, behind all that is done; in the stack's order
		{"stack web resource vm a { x: 1 } output z = res.a.y output a = (1 + true)", "1 vm {x: 1}", "1; held vm a 1 {x: 1}", api.ErrNone},
		{"stack web resource vm a { x: 1 } output z = (1 + true) output a = res.a.y", "1 vm {x: 1}", "1; held vm a 1 {x: 1}", api.ErrKind},
		{"stack web output z = 1 output a = (1 + true)", "", "0", api.ErrKind},
	}
	for _, c := range cases {
		m := machine(t, 12)
		refused(t, m, c.s, c.want)
		is(t, c.s+": things", things(t, m), c.things)
		is(t, c.s+": saved", saved(t, m), c.saved)
		// what was held ahead, and is not wanted, is let go only behind all resources; outputs are as they were, if one is wrong
		m = machine(t, 12)
		deployed(t, m, "stack web resource vm zz { } output old = 1")
		refused(t, m, c.s, c.want)
		kept := strings.HasPrefix(things(t, m), "1 vm {}")
		if wrongOutput := strings.Contains(c.s, "output"); kept == wrongOutput || !strings.HasSuffix(saved(t, m), "; out old 1") {
			t.Errorf("%s: things %s, saved %s", c.s, things(t, m), saved(t, m))
		}
	}
}

// L1: attributes may have as many parts as a value may; the number is beside them.
func TestManyParts(t *testing.T) {
	s, order := one(t, "stack base output l = 1 stack web resource vm a { x: stack.base.l } resource vm b { x: res.a.id } output o = res.a.x")
	for n, want := range map[int]error{57: nil, 58: nil, 59: api.ErrMany, 60: api.ErrMany} {
		m := machine(t, 12)
		from := map[string]map[string]api.Value{"base": {"l": wide(n)}}
		l, err := engine.Deploy(m, s, order, from)
		if err != want || err == nil && (len(l) != 1 || !value.Alike(l[0].V, wide(n))) {
			t.Errorf("%d: Deploy = %v, %v, want %v", n, l, err, want)
		}
		if _, err := engine.Plan(m, s, order, from); err != want {
			t.Errorf("%d: Plan = %v, want %v", n, err, want)
		}
	}
}

// W5: what others took away or changed is as it is to be behind the next deed.
func TestOthers(t *testing.T) {
	s := "stack web resource vm a { x: 1 } resource vm b { on: res.a.id } resource vm c { x: 3 } output o = res.b.id" // a, c, b
	cases := []struct {
		do            func(c *cloud.Cloud)
		plan, things  string
		calls, serial int
	}{
		{func(c *cloud.Cloud) { c.Lose(2) }, "create vm c 0 {x: 3}", "1 vm {x: 1}; 3 vm {on: 1}; 4 vm {x: 3}", 1, 4},
		{func(c *cloud.Cloud) { c.Lose(1) }, "create vm a 0 {x: 1}; update vm b 3 {on: 0}", "2 vm {x: 3}; 3 vm {on: 4}; 4 vm {x: 1}", 2, 5},
		{func(c *cloud.Cloud) { c.Lose(1); c.Lose(2); c.Lose(3) }, "create vm a 0 {x: 1}; create vm c 0 {x: 3}; create vm b 0 {on: 0}", "4 vm {x: 1}; 5 vm {x: 3}; 6 vm {on: 4}", 3, 6},
		{func(c *cloud.Cloud) { c.Spoil(3, api.Value{Kind: api.Rec}) }, "update vm b 3 {on: 1}", "1 vm {x: 1}; 2 vm {x: 3}; 3 vm {on: 1}", 1, 4},
		{func(c *cloud.Cloud) { c.Spoil(3, api.Value{Kind: api.Rec}); c.Lose(2) }, "create vm c 0 {x: 3}; update vm b 3 {on: 1}", "1 vm {x: 1}; 3 vm {on: 1}; 4 vm {x: 3}", 2, 5},
	}
	for i, c := range cases {
		m := machine(t, 12)
		deployed(t, m, s)
		ahead := saved(t, m)
		c.do(m.C)
		is(t, strconv.Itoa(i)+": plan", planned(t, m, s), c.plan)
		is(t, strconv.Itoa(i)+": saved ahead", saved(t, m), ahead)
		calls := m.C.Calls()
		deployed(t, m, s)
		is(t, strconv.Itoa(i)+": things", things(t, m), c.things)
		if n := m.C.Calls() - calls; n != c.calls || !strings.HasPrefix(saved(t, m), strconv.Itoa(c.serial)+";") {
			t.Errorf("%d: %d calls, saved %s", i, n, saved(t, m))
		}
		is(t, strconv.Itoa(i)+": plan behind", planned(t, m, s), "")
	}
}

// L2: refreshing is not saved by itself, but with what comes behind it.
func TestRefreshIsNotSaved(t *testing.T) {
	m := machine(t, 12)
	deployed(t, m, "stack web resource vm a { } resource vm b { }")
	m.C.Lose(1)
	refused(t, m, "stack web resource vm b { x: (1 + true) }", api.ErrKind)
	is(t, "saved", saved(t, m), "2; held vm a 1 {}; held vm b 2 {}")
	deployed(t, m, "stack web resource vm b { }") // nobody is to be called
	is(t, "saved", saved(t, m), "2; held vm b 2 {}")
	if m.C.Calls() != 2 {
		t.Errorf("%d calls", m.C.Calls())
	}
	m.C.Spoil(2, read(t, "{x: 1}"))
	deployed(t, m, "stack web resource vm b { x: 1 }") // as others made it
	is(t, "saved", saved(t, m), "2; held vm b 2 {x: 1}")
}

// Z2: what is handed in stays as it is, and what comes out is the caller's.
func TestMemory(t *testing.T) {
	m := machine(t, 12)
	s, order := one(t, "stack base output l = 1 stack web input i = 2 resource vm a { l: stack.base.l, o: {p: [in.i]} } resource vm b { l: res.a.l, o: res.a.o } output o = res.a.l output p = stack.base.l")
	from := map[string]map[string]api.Value{"base": {"l": read(t, "[1, [2]]")}}
	copied := lang.Copy(s)
	plan, err := engine.Plan(m, s, order, from)
	good(t, err)
	for _, c := range plan {
		spoil(c.Held.Attrs)
	}
	for range 2 {
		outs, err := engine.Deploy(m, s, order, from)
		good(t, err)
		for _, f := range outs {
			is(t, "output", text(t, f.V), "[1, [2]]")
			spoil(f.V)
		}
	}
	plan, err = engine.Plan(m, s, order, from)
	good(t, err)
	is(t, "plan", changes(t, plan), "")
	plan, err = engine.Plan(m, api.Stack{Name: "web"}, nil, nil)
	good(t, err)
	is(t, "plan", changes(t, plan), "delete vm b 2 {l: [1, [2]], o: {p: [2]}}; delete vm a 1 {l: [1, [2]], o: {p: [2]}}")
	if !reflect.DeepEqual(s, copied) || !reflect.DeepEqual(order, []int{0, 1}) || text(t, from["base"]["l"]) != "[1, [2]]" || len(from) != 1 || len(from["base"]) != 1 {
		t.Errorf("handed in: %+v, %v, %v", s, order, from)
	}
}

// spoil a value, all in it.
func spoil(v api.Value) {
	for i := range v.L {
		spoil(v.L[i])
		v.L[i] = api.Value{Kind: api.Num, N: 99}
	}
	for i := range v.F {
		spoil(v.F[i].V)
		v.F[i] = api.Field{Name: "spoilt"}
	}
}
