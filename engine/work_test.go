package engine_test

import (
	"reflect"
	"slices"
	"strconv"
	"strings"
	"testing"

	"wavewright/api"
	"wavewright/cloud"
	"wavewright/disk"
	"wavewright/engine"
	"wavewright/state"
)

// onlyBegun: a text with which Deploy begins, and then does nothing more: ErrKind.
const onlyBegun = "stack web resource vm none { x: (1 + true) }"

// fell: the disk is down from here on.
func fell(t *testing.T, d *disk.Disk) {
	t.Helper()
	d.Arm(0)
	if err := d.Step(); err != api.ErrDown {
		t.Fatalf("Step() of an armed disk = %v", err)
	}
}

// files of a disk, each with its bytes.
func files(t *testing.T, d *disk.Disk) []string {
	t.Helper()
	l, err := d.List()
	good(t, err)
	for i, name := range l {
		data, err := d.Read(name)
		good(t, err)
		l[i] = name + ": " + data
	}
	return l
}

// held: so many things of the cloud, each made now.
func held(t *testing.T, m engine.Machine, names ...string) []api.Held {
	t.Helper()
	var l []api.Held
	for _, n := range names {
		id, err := m.C.Create("made."+n, "vm", read(t, "{}"))
		good(t, err)
		l = append(l, api.Held{Name: n, Kind: "vm", ID: id, Attrs: read(t, "{}")})
	}
	return l
}

func intent(t *testing.T, op int, token, name string, id int, attrs string) api.Intent {
	t.Helper()
	return api.Intent{Op: op, Token: token, Held: api.Held{Name: name, Kind: "vm", ID: id, Attrs: read(t, attrs)}}
}

// L2: what the cloud has no more, what it has otherwise, and what stays.
func TestRefresh(t *testing.T) {
	m := machine(t, 12)
	s := api.State{Serial: 7, Held: held(t, m, "a", "b", "c", "d")}
	s.Held[2].Kind, s.Held[3].ID = "box", 99
	s.Held[0].Attrs = read(t, "{x: [1]}")
	s.Intents = []api.Intent{intent(t, api.Update, "tok", "a", 99, "{y: [1]}"), intent(t, api.Create, "x.9", "zz", 0, "{}")}
	s.Outs = []api.Field{{Name: "o", V: read(t, "[1, [2]]")}}
	m.C.Lose(2)
	m.C.Spoil(1, read(t, "{z: {y: [3]}}"))
	ahead, calls, steps := lines(t, s), m.C.Calls(), m.D.Steps()
	want := "7; held vm a 1 {z: {y: [3]}}; held vm c 3 {}; intent 2 tok vm a 99 {y: [1]}; intent 1 x.9 vm zz 0 {}; out o [1, [2]]"
	for range 2 {
		r, err := engine.Refresh(m, s)
		good(t, err)
		is(t, "Refresh", lines(t, r), want)
		spoil(r.Held[0].Attrs)
		spoil(r.Intents[0].Held.Attrs)
		spoil(r.Outs[0].V)
		r.Held[0], r.Intents[0], r.Outs[0] = api.Held{}, api.Intent{}, api.Field{}
	}
	is(t, "handed in", lines(t, s), ahead)
	if m.C.Calls() != calls || m.D.Steps() != steps || len(files(t, m.D)) != 0 {
		t.Errorf("Refresh made %d calls, %d steps", m.C.Calls()-calls, m.D.Steps()-steps)
	}
	// whatever it is
	odd := api.State{Serial: -1, Held: []api.Held{{Name: "Z", ID: 3}, {ID: -1}, {ID: 0}, {Name: "A", ID: 3, Attrs: api.Value{Kind: 77}}}, Outs: []api.Field{{Name: "!", V: api.Value{Kind: -1, N: 9}}}}
	r, err := engine.Refresh(m, odd)
	good(t, err)
	if len(r.Held) != 2 || r.Held[0].Name != "Z" || r.Held[1].Name != "A" || r.Held[1].Kind != "vm" || r.Serial != -1 || !reflect.DeepEqual(r.Outs, odd.Outs) {
		t.Errorf("Refresh = %+v", r)
	}
}

// L2, Z1: the cloud's errors.
func TestRefreshWhileDown(t *testing.T) {
	m := machine(t, 12)
	s := api.State{Serial: 7, Held: held(t, m, "a"), Outs: []api.Field{{Name: "o"}}}
	fell(t, m.D)
	if r, err := engine.Refresh(m, s); !reflect.DeepEqual(r, api.State{}) || err != api.ErrDown {
		t.Errorf("Refresh = %+v, %v", r, err)
	}
	s.Held = nil // of nothing the cloud is asked
	if r, err := engine.Refresh(m, s); r.Serial != 7 || len(r.Outs) != 1 || err != nil {
		t.Errorf("Refresh = %+v, %v", r, err)
	}
}

// L2, L3: what was about to be done is finished first.
func TestBegin(t *testing.T) {
	type did = func(c *cloud.Cloud) // what was done already
	nothing := func(*cloud.Cloud) {}
	cases := []struct {
		what          string
		did           did
		intents       []api.Intent
		saved, things string
		calls         int
		want          error
	}{
		{"none", nothing, nil, "5; held vm a 1 {}; held vm b 2 {}; out o 1", "1 vm {}; 2 vm {}", 0, api.ErrKind},
		{"create", nothing, []api.Intent{intent(t, api.Create, "web.aa.5.1", "aa", 0, "{x: 1}")}, "6; held vm a 1 {}; held vm aa 3 {x: 1}; held vm b 2 {}; out o 1", "1 vm {}; 2 vm {}; 3 vm {x: 1}", 1, api.ErrKind},
		{"create that was done", func(c *cloud.Cloud) { c.Create("web.c.5.1", "vm", read(t, "{x: 1}")) }, []api.Intent{intent(t, api.Create, "web.c.5.1", "c", 0, "{x: 1}")}, "6; held vm a 1 {}; held vm b 2 {}; held vm c 3 {x: 1}; out o 1", "1 vm {}; 2 vm {}; 3 vm {x: 1}", 1, api.ErrKind},
		{"update", nothing, []api.Intent{intent(t, api.Update, "web.a.5.2", "a", 1, "{x: 1}")}, "6; held vm a 1 {x: 1}; held vm b 2 {}; out o 1", "1 vm {x: 1}; 2 vm {}", 1, api.ErrKind},
		{"update that was done, and spoilt since", func(c *cloud.Cloud) {
			c.Update("web.a.5.2", 1, read(t, "{x: 1}"))
			c.Spoil(1, read(t, "{y: 1}"))
		}, []api.Intent{intent(t, api.Update, "web.a.5.2", "a", 1, "{x: 1}")}, "6; held vm a 1 {x: 1}; held vm b 2 {}; out o 1", "1 vm {y: 1}; 2 vm {}", 1, api.ErrKind},
		{"update of none", func(c *cloud.Cloud) { c.Lose(1) }, []api.Intent{intent(t, api.Update, "web.a.5.2", "a", 1, "{x: 1}")}, "6; held vm b 2 {}; out o 1", "2 vm {}", 1, api.ErrKind},
		{"delete", nothing, []api.Intent{intent(t, api.Delete, "web.b.5.3", "b", 2, "{}")}, "6; held vm a 1 {}; out o 1", "1 vm {}", 1, api.ErrKind},
		{"delete that was done", func(c *cloud.Cloud) { c.Delete("web.b.5.3", 2) }, []api.Intent{intent(t, api.Delete, "web.b.5.3", "b", 2, "{}")}, "6; held vm a 1 {}; out o 1", "1 vm {}", 1, api.ErrKind},
		{"delete of none", func(c *cloud.Cloud) { c.Lose(2) }, []api.Intent{intent(t, api.Delete, "web.b.5.3", "b", 2, "{}")}, "6; held vm a 1 {}; out o 1", "1 vm {}", 1, api.ErrKind},
		// the first one first
		{"several", nothing, []api.Intent{intent(t, api.Create, "x", "c", 0, "{}"), intent(t, api.Delete, "y", "a", 1, "{}"), intent(t, api.Create, "z", "a", 0, "{x: 1}")}, "8; held vm a 4 {x: 1}; held vm b 2 {}; held vm c 3 {}; out o 1", "2 vm {}; 3 vm {}; 4 vm {x: 1}", 3, api.ErrKind},
		// what the cloud does not this time is still to be done; what was done by then stays
		{"busy", func(c *cloud.Cloud) { c.Fail(2) }, []api.Intent{intent(t, api.Create, "x", "c", 0, "{}"), intent(t, api.Delete, "y", "a", 1, "{}")}, "5; held vm a 1 {}; held vm b 2 {}; intent 1 x vm c 0 {}; intent 3 y vm a 1 {}; out o 1", "1 vm {}; 2 vm {}", 1, api.ErrBusy},
		{"busy later", func(c *cloud.Cloud) { c.Fail(3) }, []api.Intent{intent(t, api.Create, "x", "c", 0, "{}"), intent(t, api.Delete, "y", "a", 1, "{}")}, "6; held vm a 1 {}; held vm b 2 {}; held vm c 3 {}; intent 3 y vm a 1 {}; out o 1", "1 vm {}; 2 vm {}; 3 vm {}", 2, api.ErrBusy},
		// that for which there is no room is dropped, and the others are done
		{"no room", nothing, []api.Intent{intent(t, api.Create, "w", "c", 0, "{}"), intent(t, api.Create, "x", "d", 0, "{}"), intent(t, api.Delete, "y", "a", 1, "{}"), intent(t, api.Create, "z", "e", 0, "{}")}, "8; held vm b 2 {}; held vm c 3 {}; held vm e 4 {}; out o 1", "2 vm {}; 3 vm {}; 4 vm {}", 4, api.ErrKind},
		{"no room, at the end", nothing, []api.Intent{intent(t, api.Create, "w", "c", 0, "{}"), intent(t, api.Create, "x", "d", 0, "{}")}, "6; held vm a 1 {}; held vm b 2 {}; held vm c 3 {}; out o 1", "1 vm {}; 2 vm {}; 3 vm {}", 2, api.ErrKind},
		// a token that did something else
		{"token", nothing, []api.Intent{intent(t, api.Create, "x", "c", 0, "{}"), intent(t, api.Delete, "made.a", "a", 1, "{}")}, "6; held vm a 1 {}; held vm b 2 {}; held vm c 3 {}; intent 3 made.a vm a 1 {}; out o 1", "1 vm {}; 2 vm {}; 3 vm {}", 2, api.ErrState},
	}
	for _, c := range cases {
		m := machine(t, 3)
		s := api.State{Serial: 5, Held: held(t, m, "a", "b"), Intents: c.intents, Outs: []api.Field{{Name: "o", V: read(t, "1")}}}
		good(t, state.Save(m.D, "web", s))
		c.did(m.C)
		calls := m.C.Calls()
		refused(t, m, onlyBegun, c.want)
		m.D.Restart(0, 0)
		is(t, c.what+": saved", saved(t, m), c.saved)
		is(t, c.what+": things", things(t, m), c.things)
		if n := m.C.Calls() - calls; n != c.calls {
			t.Errorf("%s: %d calls, want %d", c.what, n, c.calls)
		}
	}
}

// L2: the state's error, for all.
func TestWrongState(t *testing.T) {
	m := machine(t, 12)
	s, order := one(t, "stack web resource vm a { }")
	for data, want := range map[string]error{"": api.ErrSum, strings.Repeat("x", 99): api.ErrSum} {
		good(t, m.D.Write("state.web", data))
		if _, err := engine.Plan(m, s, order, nil); err != want {
			t.Errorf("Plan = %v, want %v", err, want)
		}
		refused(t, m, "stack web resource vm a { }", want)
		if err := engine.Destroy(m, "web"); err != want {
			t.Errorf("Destroy = %v, want %v", err, want)
		}
		if got := files(t, m.D); len(got) != 1 || got[0] != "state.web: "+data || m.C.Calls() != 0 {
			t.Errorf("files: %q, %d calls", got, m.C.Calls())
		}
	}
	fell(t, m.D)
	if _, err := engine.Plan(m, s, order, nil); err != api.ErrDown {
		t.Errorf("Plan = %v", err)
	}
	refused(t, m, "stack web resource vm a { }", api.ErrDown)
	if err := engine.Destroy(m, "web"); err != api.ErrDown {
		t.Errorf("Destroy = %v", err)
	}
}

// L3: what is noted ahead of a call, by a token of its own, and how it is finished.
func TestNoted(t *testing.T) {
	cases := []struct {
		from, to, noted, things, behind string
	}{
		{"stack web", "stack web resource vm a { x: 1 }", "0; intent 1 web.a.0.1 vm a 0 {x: 1}", "", "1 vm {x: 1}"},
		{"stack web resource vm b { } output o = 1", "stack web resource vm b { } resource vm a { x: 1 }", "1; held vm b 1 {}; intent 1 web.a.1.1 vm a 0 {x: 1}; out o 1", "1 vm {}", "1 vm {}; 2 vm {x: 1}"},
		{"stack web resource vm b { } resource vm a { }", "stack web resource vm b { x: 2 } resource vm a { }", "2; held vm a 2 {}; held vm b 1 {}; intent 2 web.b.2.2 vm b 1 {x: 2}", "1 vm {}; 2 vm {}", "1 vm {x: 2}; 2 vm {}"},
		{"stack web resource vm b { } resource vm a { x: 1 }", "stack web resource vm b { }", "2; held vm a 2 {x: 1}; held vm b 1 {}; intent 3 web.a.2.3 vm a 2 {x: 1}", "1 vm {}; 2 vm {x: 1}", "1 vm {}"},
		{"stack web resource vm a { x: 1 }", "stack web resource box a { x: 2 }", "1; held vm a 1 {x: 1}; intent 3 web.a.1.3 vm a 1 {x: 1}", "1 vm {x: 1}", "2 box {x: 2}"},
	}
	for _, c := range cases {
		for _, called := range []int{0, 1} {
			m := machine(t, 12)
			deployed(t, m, c.from)
			calls := m.C.Calls()
			m.D.Arm(3 + called) // it is saved, and falls ahead of the call, or behind it
			refused(t, m, c.to, api.ErrDown)
			m.D.Restart(0, 0)
			is(t, c.to+": noted", saved(t, m), c.noted)
			if n := m.C.Calls() - calls; n != called || called == 0 && things(t, m) != c.things {
				t.Errorf("%s: %d calls, things %s", c.to, n, things(t, m))
			}
			deployed(t, m, c.to)
			is(t, c.to+": things", things(t, m), c.behind)
		}
	}
}

// L3: what a token did already is not done again: nothing is there twice.
func TestTokens(t *testing.T) {
	m := machine(t, 12)
	id, err := m.C.Create("web.a.0.1", "vm", read(t, "{x: 9}"))
	good(t, err)
	deployed(t, m, "stack web resource vm a { x: 1 } resource vm b { }") // as it is answered; what it is otherwise is found next time
	is(t, "saved", saved(t, m), "2; held vm a "+strconv.Itoa(id)+" {x: 1}; held vm b 2 {}")
	is(t, "plan", planned(t, m, "stack web resource vm a { x: 1 } resource vm b { }"), "update vm a 1 {x: 1}")
	// one that did another operation
	m = machine(t, 12)
	deployed(t, m, "stack web resource vm a { x: 1 }")
	_, err = m.C.Create("web.a.1.2", "vm", read(t, "{}"))
	good(t, err)
	refused(t, m, "stack web resource vm a { x: 2 }", api.ErrState)
	is(t, "saved", saved(t, m), "1; held vm a 1 {x: 1}; intent 2 web.a.1.2 vm a 1 {x: 2}")
}

// L3, W5: what the cloud refused is no more noted, and done by the next deed; no number of the state is lost by it.
func TestRefusedByTheCloud(t *testing.T) {
	m := machine(t, 2)
	s := "stack web resource vm a { } resource vm b { on: res.a.id } resource vm c { on: res.b.id } output o = 1"
	m.C.Fail(1)
	refused(t, m, s, api.ErrBusy)
	m.D.Restart(0, 0)
	is(t, "saved", saved(t, m), "1; held vm a 1 {}")
	for range 2 {
		refused(t, m, s, api.ErrQuota)
		m.D.Restart(0, 0)
		is(t, "saved", saved(t, m), "2; held vm a 1 {}; held vm b 2 {on: 1}")
		is(t, "things", things(t, m), "1 vm {}; 2 vm {on: 1}")
	}
	deployed(t, m, "stack web resource box a { } resource vm b { on: res.a.id } output o = 1") // deleted first: there is room
	is(t, "saved", saved(t, m), "5; held box a 3 {}; held vm b 2 {on: 3}; out o 1")
	m.C.Fail(m.C.Calls())
	refused(t, m, "stack web resource box a { x: 1 }", api.ErrBusy)
	is(t, "saved", saved(t, m), "5; held box a 3 {}; held vm b 2 {on: 3}; out o 1")
	m.C.Fail(m.C.Calls())
	if err := engine.Destroy(m, "web"); err != api.ErrBusy {
		t.Errorf("Destroy = %v", err)
	}
	is(t, "saved", saved(t, m), "5; held box a 3 {}; held vm b 2 {on: 3}; out o 1")
	good(t, engine.Destroy(m, "web"))
	is(t, "things", things(t, m), "")
	none := machine(t, 0)
	refused(t, none, s, api.ErrQuota)
	is(t, "saved", saved(t, none), "0")
	is(t, "outputs", deployed(t, none, "stack web output o = 1"), "o = 1")
}

// texts: a list of some so many bytes, as it is written: with each more of them one more.
func texts(n int) string {
	var l []string
	for ; n >= 164; n -= 164 {
		l = append(l, `"`+strings.Repeat(`\x00`, 40)+`"`)
	}
	for ; n >= 44; n -= 44 {
		l = append(l, `"`+strings.Repeat("x", 40)+`"`)
	}
	if n > 3 {
		l = append(l, `"`+strings.Repeat("y", n-3)+`"`)
	}
	return "[" + strings.Join(l, ", ") + "]"
}

// L3: what is noted must have room beside what is held: to the byte.
func TestTooMuchForAFile(t *testing.T) {
	s, order := one(t, "stack base output l = 1 stack web resource vm a { l: stack.base.l }")
	for _, first := range []int{200, 1500} {
		refusals := 0
		for n := 4000 - first - 230; n < 4000-first-60; n++ {
			m := machine(t, 12)
			from := func(n int) map[string]map[string]api.Value {
				return map[string]map[string]api.Value{"base": {"l": read(t, texts(n))}}
			}
			_, err := engine.Deploy(m, s, order, from(first))
			good(t, err)
			has, err := state.Load(m.D, "web")
			good(t, err)
			noted := has
			noted.Intents = []api.Intent{intent(t, api.Update, "web.a.1.2", "a", 1, "{l: "+texts(n)+"}")}
			x, err := state.Text(noted)
			good(t, err)
			var want error
			if len(x) > api.MaxData {
				want = api.ErrMany
				refusals++
			}
			calls := m.C.Calls()
			if _, err := engine.Deploy(m, s, order, from(n)); err != want {
				t.Errorf("%d bytes: Deploy = %v, want %v", len(x), err, want)
			}
			if want != nil && (m.C.Calls() != calls || saved(t, m) != lines(t, has)) {
				t.Errorf("%d bytes: %d calls, saved %s", len(x), m.C.Calls()-calls, saved(t, m))
			}
		}
		if refusals == 0 || refusals == 170 {
			t.Errorf("%d refusals", refusals)
		}
	}
}

// L3: a Create too great for any file, and a Delete of what has no room beside itself: not done.
func TestTooGreat(t *testing.T) {
	great := strings.Repeat("\x00", 40) // four bytes each, as it is written
	m := machine(t, 12)
	s, order := one(t, "stack base output l = 1 stack web resource vm a { } resource vm b { l: stack.base.l } resource vm c { }")
	from := func(n int) map[string]map[string]api.Value {
		l := wide(n)
		for i := range l.L {
			l.L[i] = api.Value{Kind: api.Text, S: great}
		}
		return map[string]map[string]api.Value{"base": {"l": l}}
	}
	if l, err := engine.Deploy(m, s, order, from(25)); len(l) != 0 || err != api.ErrMany {
		t.Errorf("Deploy = %v, %v", l, err)
	}
	is(t, "saved", saved(t, m), "1; held vm a 1 {}")
	_, err := engine.Deploy(m, s, order, from(20))
	good(t, err)
	ahead := saved(t, m)
	refused(t, m, "stack web resource vm a { } resource vm c { }", api.ErrMany)
	is(t, "saved", saved(t, m), ahead)
	if len(m.C.All()) != 3 || m.C.Calls() != 3 {
		t.Errorf("%d things, %d calls", len(m.C.All()), m.C.Calls())
	}
}

// L3: as many as may be held; one more is not made, for it could not be saved.
func TestTooManyHeld(t *testing.T) {
	var names []string
	for i := range state.MaxHeld {
		names = append(names, "n"+strconv.Itoa(10+i))
	}
	for _, have := range []int{state.MaxHeld - 1, state.MaxHeld} {
		m := machine(t, 40)
		good(t, state.Save(m.D, "web", api.State{Serial: 3, Held: held(t, m, names[:have]...)}))
		ahead, calls := saved(t, m), m.C.Calls()
		new := "stack web resource vm new { }"
		if have < state.MaxHeld {
			deployed(t, m, new)
			is(t, "saved", saved(t, m), "19; held vm new 16 {}")
			continue
		}
		refused(t, m, new, api.ErrMany)
		is(t, "saved", saved(t, m), ahead)
		if m.C.Calls() != calls || len(m.C.All()) != have {
			t.Errorf("%d calls, %d things", m.C.Calls()-calls, len(m.C.All()))
		}
		// others can still be changed, deleted, and made anew
		deployed(t, m, "stack web resource vm n10 { x: 1 } resource box n25 { }")
		is(t, "things", things(t, m), "1 vm {x: 1}; 17 box {}")
		deployed(t, m, new)
		is(t, "things", things(t, m), "18 vm {}")
	}
}

// L3: what the state says of what is noted, and of what is behind it.
func TestStatesErrors(t *testing.T) {
	m := machine(t, 12)
	good(t, state.Save(m.D, "web", api.State{Serial: api.MaxNumber, Outs: []api.Field{{Name: "o", V: read(t, "1")}}}))
	is(t, "outputs", deployed(t, m, "stack web output p = 2"), "p = 2") // nothing is counted
	refused(t, m, "stack web resource vm a { }", api.ErrBound)
	// a token that is too long
	m = machine(t, 40)
	long := "abcdefghijkl"
	s, order := one(t, "stack "+long+" resource vm "+long+" { }")
	for serial, want := range map[int]error{99999999: nil, 100000000: api.ErrShape} {
		good(t, state.Save(m.D, long, api.State{Serial: serial}))
		calls := m.C.Calls()
		if _, err := engine.Deploy(m, s, order, nil); err != want {
			t.Errorf("Serial %d: Deploy = %v, want %v", serial, err, want)
		}
		if want != nil && m.C.Calls() != calls {
			t.Errorf("Serial %d: %d calls", serial, m.C.Calls()-calls)
		}
	}
	// it comes ahead of what could not be held
	var names []string
	for i := range state.MaxHeld {
		names = append(names, "n"+strconv.Itoa(10+i))
	}
	good(t, state.Save(m.D, long, api.State{Serial: 100000000, Held: held(t, m, names...)}))
	if _, err := engine.Deploy(m, s, order, nil); err != api.ErrShape {
		t.Errorf("Deploy = %v", err)
	}
	// no room on the disk
	m = machine(t, 12)
	for i := range api.MaxFiles {
		good(t, m.D.Write("f"+strconv.Itoa(i), ""))
	}
	refused(t, m, "stack web resource vm a { }", api.ErrMany)
	if m.C.Calls() != 0 {
		t.Errorf("%d calls", m.C.Calls())
	}
}

// L5
func TestDestroy(t *testing.T) {
	m := machine(t, 12)
	deployed(t, m, "stack web resource vm a { } resource vm b { on: res.a.id } resource box aa { } output o = 1")
	deployed(t, m, "stack web resource vm a { } resource vm b { on: res.a.id } resource box aa { x: 1 } output o = 1")
	other, order := one(t, "stack other resource vm a { }")
	_, err := engine.Deploy(m, other, order, nil)
	good(t, err)
	for i, want := range []string{
		"4; held vm a 1 {}; held box aa 2 {x: 1}; held vm b 3 {on: 1}; out o 1",
		"5; held vm a 1 {}; held box aa 2 {x: 1}; out o 1",
		"6; held vm a 1 {}; out o 1",
	} {
		m.C.Fail(m.C.Calls() + min(i, 1)) // one of them is done each time
		if err := engine.Destroy(m, "web"); err != api.ErrBusy {
			t.Fatalf("Destroy = %v", err)
		}
		is(t, "saved", saved(t, m), want)
	}
	for range 2 {
		good(t, engine.Destroy(m, "web"))
		m.D.Restart(0, 0)
		is(t, "saved", saved(t, m), "7")
		is(t, "things", things(t, m), "4 vm {}")
	}
	// no token is for a second time
	deployed(t, m, "stack web resource vm a { }")
	is(t, "saved", saved(t, m), "8; held vm a 5 {}")
	good(t, engine.Destroy(m, "web"))
	is(t, "saved", saved(t, m), "9")
	is(t, "things", things(t, m), "4 vm {}")
}

// L5: what was never there; what others took; what was begun; wrong names.
func TestDestroyEdges(t *testing.T) {
	m := machine(t, 12)
	good(t, engine.Destroy(m, "web"))
	if l := files(t, m.D); len(l) != 1 || !strings.HasPrefix(l[0], "state.web: serial 0\nsum ") {
		t.Errorf("files: %q", l)
	}
	deployed(t, m, "stack web resource vm a { } resource vm b { } output o = 1")
	m.C.Lose(2)
	good(t, engine.Destroy(m, "web"))
	is(t, "saved", saved(t, m), "3")
	if m.C.Calls() != 3 {
		t.Errorf("%d calls", m.C.Calls())
	}
	good(t, state.Save(m.D, "web", api.State{Serial: 9, Intents: []api.Intent{intent(t, api.Create, "web.c.9.1", "c", 0, "{}")}}))
	m.C.Fail(m.C.Calls())
	if err := engine.Destroy(m, "web"); err != api.ErrBusy {
		t.Errorf("Destroy = %v", err)
	}
	is(t, "saved", saved(t, m), "9; intent 1 web.c.9.1 vm c 0 {}")
	good(t, engine.Destroy(m, "web"))
	is(t, "saved", saved(t, m), "11")
	is(t, "things", things(t, m), "")
	steps := m.D.Steps()
	for _, name := range []string{"", "A", "0a", "a.b", "abcdefghijklm", "é", "web\n", strings.Repeat("a", 99)} {
		if err := engine.Destroy(m, name); err != api.ErrShape {
			t.Errorf("Destroy(%q) = %v", name, err)
		}
	}
	if m.D.Steps() != steps {
		t.Errorf("%d steps", m.D.Steps()-steps)
	}
	fell(t, m.D)
	if err := engine.Destroy(m, "A"); err != api.ErrShape {
		t.Errorf("Destroy = %v", err)
	}
}

// L6: nothing is changed by it; which error comes first.
func TestPlan(t *testing.T) {
	d, other := disk.New(), disk.New() // the cloud falls by itself
	c, err := cloud.New(other, 12)
	good(t, err)
	m := engine.Machine{D: d, C: c}
	deployed(t, m, "stack web resource vm a { } resource vm b { on: res.a.id } output o = 1")
	m.C.Lose(1)
	m.C.Spoil(2, read(t, "{on: 7}"))
	ahead, steps := files(t, d), d.Steps()+other.Steps()
	is(t, "plan", planned(t, m, "stack web"), "delete vm b 2 {on: 7}")
	is(t, "plan", planned(t, m, "stack web resource box b { } resource vm c { on: res.b.id }"), "delete vm b 2 {on: 7}; create box b 0 {}; create vm c 0 {on: 0}")
	is(t, "plan", planned(t, m, "stack web resource vm b { on: 7 } resource vm c { on: res.b.id }"), "create vm c 0 {on: 2}")
	is(t, "plan", planned(t, m, "stack web resource vm b { on: 8 } resource vm c { on: [res.b.id, res.b.on] }"), "update vm b 2 {on: 8}; create vm c 0 {on: [2, 8]}")
	is(t, "plan of outputs that are wrong", planned(t, m, "stack web output o = (1 + true)"), "delete vm b 2 {on: 7}")
	wrong := func(s string, want error) {
		t.Helper()
		x, order := one(t, s)
		if l, err := engine.Plan(m, x, order, nil); len(l) != 0 || err != want {
			t.Errorf("Plan(%s) = %v, %v, want nothing, %v", s, l, err, want)
		}
	}
	wrong("stack web resource vm c { } resource vm d { x: res.c.y }", api.ErrNone)
	wrong(onlyBegun, api.ErrKind)
	fell(t, other)
	wrong(onlyBegun, api.ErrDown) // refreshing comes ahead of attributes
	s := api.State{Serial: 2, Held: []api.Held{{Name: "b", Kind: "vm", ID: 2, Attrs: read(t, "{}")}}, Intents: []api.Intent{intent(t, api.Delete, "x", "b", 2, "{}")}}
	if got := files(t, d); !slices.Equal(got, ahead) || d.Steps()+other.Steps() != steps || c.Calls() != 2 {
		t.Errorf("files: %q, %d steps, %d calls", got, d.Steps()+other.Steps()-steps, c.Calls())
	}
	good(t, state.Save(d, "web", s))
	wrong(onlyBegun, api.ErrState) // what was begun, ahead of refreshing
	other.Restart(0, 0)
	wrong("stack web", api.ErrState)
	fell(t, d)
	wrong("stack web", api.ErrDown)
	d.Restart(0, 0)
	wrong("stack web", api.ErrState)
	is(t, "saved", saved(t, m), "2; held vm b 2 {}; intent 3 x vm b 2 {}")
}
