package coord_test

import (
	"math"
	"reflect"
	"slices"
	"strconv"
	"strings"
	"testing"

	"wavewright/api"
	"wavewright/check"
	"wavewright/cloud"
	"wavewright/coord"
	"wavewright/disk"
	"wavewright/engine"
	"wavewright/lang"
	"wavewright/locks"
	"wavewright/state"
	"wavewright/value"
	"wavewright/walog"
)

func good(t *testing.T, errs ...error) {
	t.Helper()
	for i, err := range errs {
		if err != nil {
			t.Fatalf("deed %d: %v", i, err)
		}
	}
}

// is that so?
func is(t *testing.T, what, got, want string) {
	t.Helper()
	if got != want {
		t.Errorf("%s:\n%s\nwant\n%s", what, got, want)
	}
}

func all(int) bool { return true }

// but: all are alive but that one.
func but(dead int) func(int) bool { return func(n int) bool { return n != dead } }

// machine: a new one, with room for so many things.
func machine(t *testing.T, quota int) engine.Machine {
	t.Helper()
	d := disk.New()
	c, err := cloud.New(d, quota)
	good(t, err)
	return engine.Machine{D: d, C: c}
}

// opened: a coord of the owner 0; all are alive.
func opened(t *testing.T, m engine.Machine) *coord.Coord {
	t.Helper()
	c, err := coord.Open(m, 0, all)
	good(t, err)
	return c
}

// work of a text.
func work(t *testing.T, s string) api.Work {
	t.Helper()
	l, at, err := lang.Read(s)
	if err != nil {
		t.Fatalf("Read(%s) = %v at %d", s, err, at)
	}
	w, err := check.Check(l)
	if err != nil {
		t.Fatalf("Check(%s) = %v", s, err)
	}
	return w
}

// names of a text, with blanks between.
func names(s string) []string { return strings.Fields(s) }

// fell: the disk is down from here on.
func fell(t *testing.T, d *disk.Disk) {
	t.Helper()
	d.Arm(0)
	if err := d.Step(); err != api.ErrDown {
		t.Fatalf("Step() of an armed disk = %v", err)
	}
}

func read(t *testing.T, s string) api.Value {
	t.Helper()
	v, err := state.Value(s)
	good(t, err)
	return v
}

func text(t *testing.T, v api.Value) string {
	t.Helper()
	s, err := value.Text(v)
	good(t, err)
	return s
}

// things that the cloud has.
func things(t *testing.T, m engine.Machine) string {
	t.Helper()
	var l []string
	for _, x := range m.C.All() {
		l = append(l, strconv.Itoa(x.ID)+" "+x.Kind+" "+text(t, x.Attrs))
	}
	return strings.Join(l, "; ")
}

// saved of a stack, a line each, without the sum.
func saved(t *testing.T, m engine.Machine, name string) string {
	t.Helper()
	s, err := state.Load(m.D, name)
	good(t, err)
	x, err := state.Text(s)
	good(t, err)
	l := strings.Split(strings.TrimSuffix(x, "\n"), "\n")
	return strings.TrimPrefix(strings.Join(l[:len(l)-1], "; "), "serial ")
}

// noted in the journal.
func noted(t *testing.T, m engine.Machine) string {
	t.Helper()
	l, err := walog.Open(m.D, "journal")
	good(t, err)
	return strings.Join(l.Records(), "; ")
}

// locked: those that are, with their owners.
func locked(t *testing.T, m engine.Machine) string {
	t.Helper()
	l, err := locks.All(m.D)
	good(t, err)
	for i, name := range l {
		who, had, err := locks.Owner(m.D, name)
		if good(t, err); !had {
			t.Fatalf("the lock of %s is not had", name)
		}
		l[i] = name + "=" + strconv.Itoa(who)
	}
	return strings.Join(l, " ")
}

// deployed: the names of those that have something.
func deployed(t *testing.T, c *coord.Coord) string {
	t.Helper()
	l, err := c.Deployed()
	good(t, err)
	return strings.Join(l, " ")
}

// begun: its words, and behind '/' those that are done.
func begun(c *coord.Coord) string {
	words, done := c.Begun()
	if len(words)+len(done) == 0 {
		return ""
	}
	return strings.Join(words, " ") + "/" + strings.Join(done, " ")
}

// changes told.
func changes(t *testing.T, l []api.Change) string {
	t.Helper()
	var s []string
	for _, c := range l {
		s = append(s, []string{"", "create", "update", "delete"}[c.Op]+" "+c.Held.Kind+" "+c.Held.Name+" "+strconv.Itoa(c.Held.ID)+" "+text(t, c.Held.Attrs))
	}
	return strings.Join(s, "; ")
}

// M1
func TestOpen(t *testing.T) {
	m := machine(t, 12)
	for who := range api.MaxOwners {
		if c, err := coord.Open(m, who, all); c == nil || err != nil {
			t.Errorf("Open of %d = %v, %v", who, c, err)
		}
	}
	if l, err := m.D.List(); len(l) != 0 || err != nil || m.D.Steps() != 0 {
		t.Errorf("files: %q, %v, %d steps", l, err, m.D.Steps())
	}
	wrong := func(who int, want error) {
		t.Helper()
		if c, err := coord.Open(m, who, all); c != nil || err != want {
			t.Errorf("Open of %d = %v, %v, want none, %v", who, c, err, want)
		}
	}
	for range 2 { // also while the disk is down
		for _, who := range []int{-1, api.MaxOwners, math.MinInt, math.MaxInt} {
			wrong(who, api.ErrBound)
		}
		fell(t, m.D)
	}
	wrong(0, api.ErrDown)
}

// M1, H1: what is torn of the journal is cut off.
func TestOpenTorn(t *testing.T) {
	m := machine(t, 12)
	l, err := walog.Open(m.D, "journal")
	good(t, err, l.Add("deploy a b"), l.Add("commit a"), m.D.Append("journal", "\x08\x00torn"), m.D.Sync())
	for steps := range 2 {
		m.D.Arm(steps)
		if c, err := coord.Open(m, 0, all); c != nil || err != api.ErrDown {
			t.Errorf("Open with %d steps left = %v, %v", steps, c, err)
		}
		m.D.Restart(0, 0)
	}
	c := opened(t, m)
	is(t, "begun", begun(c), "deploy a b/a")
	if data, err := m.D.Read("journal"); len(data) != 16+14 || err != nil {
		t.Errorf("the journal has %q, %v", data, err)
	}
	w := work(t, "stack a stack b")
	good(t, c.Deploy(w, nil))
	is(t, "noted", noted(t, m), "deploy a b; commit a; deploy a b; commit a; commit b; end")
}

// M1
func TestDeployed(t *testing.T) {
	m := machine(t, 12)
	c := opened(t, m)
	is(t, "deployed", deployed(t, c), "")
	h := api.Held{Name: "x", Kind: "vm", ID: 1, Attrs: read(t, "{}")}
	for name, s := range map[string]api.State{
		"held":         {Held: []api.Held{h}},
		"a":            {Serial: 3, Intents: []api.Intent{{Op: api.Create, Held: h, Token: "a.x.3.1"}}},
		"abcdefghijk9": {Outs: []api.Field{{Name: "o", V: read(t, "null")}}},
		"was":          {Serial: 7},
		"never":        {},
	} {
		good(t, state.Save(m.D, name, s))
	}
	data, err := m.D.Read("state.held")
	good(t, err)
	for _, f := range []string{"state", "state.", "state.0a", "state.a.b", "state.abcdefghijklm", "xstate.a", "lock.z", "held"} { // no stack's
		good(t, m.D.Write(f, data))
	}
	steps := m.D.Steps()
	is(t, "deployed", deployed(t, c), "a abcdefghijk9 held")
	if m.D.Steps() != steps {
		t.Errorf("%d steps", m.D.Steps()-steps)
	}
	l, err := c.Deployed()
	good(t, err)
	l[0] = "mine"
	_ = append(l[:1], "mine")
	is(t, "deployed", deployed(t, c), "a abcdefghijk9 held")
	wrong := func(want error) {
		t.Helper()
		if l, err := c.Deployed(); len(l) != 0 || err != want {
			t.Errorf("Deployed = %q, %v, want none, %v", l, err, want)
		}
	}
	good(t, m.D.Write("state.z", "serial 0\n"))
	wrong(api.ErrSum)
	torn := "serial x\n"
	good(t, m.D.Write("state.y", torn+"sum "+strconv.FormatUint(value.Sum(torn), 10)+"\n"))
	wrong(api.ErrText) // y is ahead of z
	fell(t, m.D)
	wrong(api.ErrDown)
}

// four: web needs mid, that needs base; alone needs nobody, and nobody needs it.
const four = `
stack web resource vm one { net: stack.mid.id } output o = res.one.id
stack mid input size = 3 resource net in { on: stack.base.id, size: in.size } output id = res.in.id
stack base resource net main { } output id = res.main.id output twice = [res.main.id, res.main.id]
stack alone resource vm x { }`

// M2: who is deployed, in which order, and what is noted.
func TestDeploy(t *testing.T) {
	w := work(t, four)
	cases := []struct{ targets, noted, things, has string }{
		{"", "deploy base alone mid web; commit base; commit alone; commit mid; commit web; end", "1 net {}; 2 vm {}; 3 net {on: 1, size: 3}; 4 vm {net: 3}", "alone base mid web"},
		{"web", "deploy base mid web; commit base; commit mid; commit web; end", "1 net {}; 2 net {on: 1, size: 3}; 3 vm {net: 2}", "base mid web"},
		{"mid", "deploy base mid; commit base; commit mid; end", "1 net {}; 2 net {on: 1, size: 3}", "base mid"},
		{"base", "deploy base; commit base; end", "1 net {}", "base"},
		{"alone", "deploy alone; commit alone; end", "1 vm {}", "alone"},
		{"mid alone mid base", "deploy base alone mid; commit base; commit alone; commit mid; end", "1 net {}; 2 vm {}; 3 net {on: 1, size: 3}", "alone base mid"},
	}
	for _, x := range cases {
		m := machine(t, 12)
		c := opened(t, m)
		targets := names(x.targets)
		good(t, c.Deploy(w, targets))
		is(t, x.targets+": noted", noted(t, m), x.noted)
		is(t, x.targets+": things", things(t, m), x.things)
		is(t, x.targets+": deployed", deployed(t, c), x.has)
		is(t, x.targets+": locks", locked(t, m), "")
		is(t, x.targets+": begun", begun(c), "")
		is(t, "targets", strings.Join(targets, " "), x.targets)
		calls := m.C.Calls()
		good(t, c.Deploy(w, targets)) // W1: deployed again, no call is made
		is(t, x.targets+": noted", noted(t, m), x.noted+"; "+x.noted)
		is(t, x.targets+": things", things(t, m), x.things)
		if m.C.Calls() != calls {
			t.Errorf("%s: deployed again, %d calls", x.targets, m.C.Calls()-calls)
		}
		m.D.Restart(0, 0) // all is kept
		is(t, x.targets+": kept", noted(t, m), x.noted+"; "+x.noted)
		is(t, x.targets+": kept", deployed(t, opened(t, m)), x.has)
	}
}

// Z2: what is handed in stays as it is.
func TestHandedInStays(t *testing.T) {
	m := machine(t, 12)
	c := opened(t, m)
	w, l := work(t, four), names("web alone")
	good(t, c.Deploy(w, l))
	_, err := c.Plan(w, "web")
	good(t, err, c.Destroy(w, l), c.Deploy(w, nil))
	m.C.Fail(m.C.Calls())
	if err := c.Destroy(w, nil); err != api.ErrBusy {
		t.Errorf("Destroy = %v", err)
	}
	_, err = c.Resume(w)
	good(t, err)
	if !reflect.DeepEqual(w, work(t, four)) || !slices.Equal(l, names("web alone")) {
		t.Errorf("it was written into: %v, %q", w, l)
	}
}

// M2: outputs are those of the states, whatever the text of those who have them says by now.
func TestOutputsOfStates(t *testing.T) {
	m := machine(t, 12)
	c := opened(t, m)
	w := work(t, "stack a input x = 1 output o = [in.x] output p = null stack b resource vm y { o: stack.a.o } output o = (stack.a.p == null)")
	good(t, c.Deploy(w, nil))
	is(t, "saved", saved(t, m, "b"), "1; held vm y 1 {o: [1]}; out o true")
	w = work(t, "stack a input x = 2 output o = [in.x] stack b resource vm y { o: stack.a.o }")
	plan, err := c.Plan(w, "b")
	good(t, err)
	is(t, "plan", changes(t, plan), "") // a is not deployed yet
	good(t, c.Deploy(w, names("a")))
	plan, err = c.Plan(w, "b")
	good(t, err)
	is(t, "plan", changes(t, plan), "update vm y 1 {o: [2]}")
	good(t, c.Deploy(w, names("b")))
	is(t, "saved", saved(t, m, "b"), "2; held vm y 1 {o: [2]}")
	is(t, "saved", saved(t, m, "a"), "0; out o [2]")
}

// refusal: an error ahead of anything that is noted changes nothing.
func refusal(t *testing.T, m engine.Machine, what string, do func() error, want error) {
	t.Helper()
	ahead, steps, calls := files(t, m), m.D.Steps(), m.C.Calls()
	if err := do(); err != want {
		t.Errorf("%s = %v, want %v", what, err, want)
	}
	if m.D.Steps() != steps || m.C.Calls() != calls || !slices.Equal(files(t, m), ahead) {
		t.Errorf("%s: %d steps, %d calls", what, m.D.Steps()-steps, m.C.Calls()-calls)
	}
}

// files of the disk, each with its bytes.
func files(t *testing.T, m engine.Machine) []string {
	t.Helper()
	l, err := m.D.List()
	good(t, err)
	for i, name := range l {
		data, err := m.D.Read(name)
		good(t, err)
		l[i] = name + ": " + data
	}
	return l
}

// M2, M3, M4, Z1
func TestNoStacksName(t *testing.T) {
	m := machine(t, 12)
	c := opened(t, m)
	w := work(t, four)
	good(t, c.Deploy(w, names("base")))
	for _, l := range [][]string{{"none"}, {""}, {"base", "none"}, {"none", "base"}, {"base "}, {"Base"}, {"state.base"}, {strings.Repeat("a", 5000)}, {"base", "\x00"}} {
		refusal(t, m, "Deploy", func() error { return c.Deploy(w, l) }, api.ErrNone)
		refusal(t, m, "Destroy", func() error { return c.Destroy(w, l) }, api.ErrNone)
	}
	for _, name := range []string{"none", "", "base ", "Base", "state.base", strings.Repeat("a", 5000), "\x00"} {
		refusal(t, m, "Plan", func() error {
			p, err := c.Plan(w, name)
			if len(p) != 0 {
				t.Errorf("Plan of %q = %v", name, p)
			}
			return err
		}, api.ErrNone)
	}
	// ErrNone is ahead of ErrNeeded
	good(t, c.Deploy(w, nil))
	refusal(t, m, "Destroy", func() error { return c.Destroy(w, names("base none")) }, api.ErrNone)
	// of a work without stacks, and while the disk is down
	for range 2 {
		for _, do := range []error{c.Deploy(api.Work{}, names("base")), c.Destroy(api.Work{}, names("base"))} {
			if do != api.ErrNone {
				t.Errorf("of no stacks: %v", do)
			}
		}
		if p, err := c.Plan(api.Work{}, ""); len(p) != 0 || err != api.ErrNone {
			t.Errorf("Plan = %v, %v", p, err)
		}
		fell(t, m.D)
	}
	for _, err := range []error{c.Deploy(w, nil), c.Destroy(w, nil), c.Destroy(w, names("base")), c.Deploy(api.Work{}, nil)} {
		if err != api.ErrDown {
			t.Errorf("of a machine that is down: %v", err)
		}
	}
	if p, err := c.Plan(w, "base"); len(p) != 0 || err != api.ErrDown {
		t.Errorf("Plan = %v, %v", p, err)
	}
}

// M2: the first error ends it; what was done by then stays, and what is behind it is not touched.
func TestDeployErrors(t *testing.T) {
	cases := []struct {
		what, text string
		set        func(m engine.Machine)
		want       error
		noted, has string
	}{
		{"a call that fails", four, func(m engine.Machine) { m.C.Fail(2) }, api.ErrBusy, "deploy base alone mid web; commit base; commit alone", "alone base"},
		{"the first call fails", four, func(m engine.Machine) { m.C.Fail(0) }, api.ErrBusy, "deploy base alone mid web", ""},
		{"an expression", "stack a resource vm x { } stack b output o = (1 + true) stack c resource vm x { }", nil, api.ErrKind, "deploy a b c; commit a", "a"},
		{"no such field", "stack a resource vm x { } resource vm y { z: res.x.none }", nil, api.ErrNone, "deploy a", "a"},
		{"no room in the cloud", "stack a resource vm x { } resource vm y { } stack b resource vm x { } resource vm y { } resource vm z { }", nil, api.ErrQuota, "deploy a b; commit a", "a b"},
	}
	for _, x := range cases {
		m := machine(t, 4)
		c := opened(t, m)
		if x.set != nil {
			x.set(m)
		}
		if err := c.Deploy(work(t, x.text), nil); err != x.want {
			t.Errorf("%s: Deploy = %v, want %v", x.what, err, x.want)
		}
		is(t, x.what+": noted", noted(t, m), x.noted)
		is(t, x.what+": deployed", deployed(t, c), x.has)
		is(t, x.what+": locks", locked(t, m), "")
		m.D.Restart(0, 0)
		is(t, x.what+": locks that are kept", locked(t, m), "")
	}
}

// laid: a machine with that text deployed.
func laid(t *testing.T, s string) (engine.Machine, *coord.Coord) {
	t.Helper()
	m := machine(t, 12)
	c := opened(t, m)
	good(t, c.Deploy(work(t, s), nil))
	return m, c
}

// M3: who is destroyed, in which order, and what is noted.
func TestDestroy(t *testing.T) {
	w := work(t, four)
	deploys := "deploy base alone mid web; commit base; commit alone; commit mid; commit web; end; "
	cases := []struct{ targets, noted, things, has string }{
		{"", "destroy web mid alone base; gone web; gone mid; gone alone; gone base; end", "", ""},
		{"web", "destroy web; gone web; end", "1 net {}; 2 vm {}; 3 net {on: 1, size: 3}", "alone base mid"},
		{"mid web", "destroy web mid; gone web; gone mid; end", "1 net {}; 2 vm {}", "alone base"},
		{"alone", "destroy alone; gone alone; end", "1 net {}; 3 net {on: 1, size: 3}; 4 vm {net: 3}", "base mid web"},
		{"base mid web base", "destroy web mid base; gone web; gone mid; gone base; end", "2 vm {}", "alone"},
	}
	for _, x := range cases {
		m, c := laid(t, four)
		targets := names(x.targets)
		good(t, c.Destroy(w, targets))
		is(t, x.targets+": noted", noted(t, m), deploys+x.noted)
		is(t, x.targets+": things", things(t, m), x.things)
		is(t, x.targets+": deployed", deployed(t, c), x.has)
		is(t, x.targets+": locks", locked(t, m), "")
		is(t, x.targets+": begun", begun(c), "")
		is(t, "targets", strings.Join(targets, " "), x.targets)
		m.D.Restart(0, 0)
		is(t, x.targets+": kept", noted(t, m), deploys+x.noted)
		calls := m.C.Calls()
		good(t, opened(t, m).Destroy(w, targets))
		if m.C.Calls() != calls || things(t, m) != x.things {
			t.Errorf("%s: destroyed again, %d calls", x.targets, m.C.Calls()-calls)
		}
	}
}

// M3, W4: what one that stays needs is not destroyed.
func TestNeeded(t *testing.T) {
	w := work(t, four)
	for _, x := range []struct {
		ahead, targets string
		want           error
	}{
		{"", "base", api.ErrNeeded}, {"", "mid", api.ErrNeeded}, {"", "base mid", api.ErrNeeded}, {"", "base alone", api.ErrNeeded}, {"", "mid alone", api.ErrNeeded},
		{"", "base web", api.ErrNeeded}, // mid stays, and needs base
		{"web", "base", api.ErrNeeded}, {"web", "mid", nil}, {"web", "base mid", nil}, {"web mid", "base", nil}, {"web mid", "alone", nil},
		{"", "web", nil}, {"", "alone", nil}, {"", "base mid web", nil},
	} {
		m, c := laid(t, four)
		if x.ahead != "" {
			good(t, c.Destroy(w, names(x.ahead)))
		}
		what := "Destroy of " + x.targets + " behind " + x.ahead
		if x.want != nil {
			refusal(t, m, what, func() error { return c.Destroy(w, names(x.targets)) }, x.want)
			continue
		}
		good(t, c.Destroy(w, names(x.targets)))
		for _, name := range names(x.targets) {
			if strings.Contains(saved(t, m, name), ";") {
				t.Errorf("%s: %s has %s", what, name, saved(t, m, name))
			}
		}
	}
}

// M3: to have something is to have something held, Intents or Outs; those between may have nothing.
func TestNeededByWhatIsThere(t *testing.T) {
	w := work(t, four)
	h := api.Held{Name: "x", Kind: "vm", ID: 9, Attrs: read(t, "{}")}
	for _, x := range []struct {
		s    api.State
		want error
	}{
		{api.State{Held: []api.Held{h}}, api.ErrNeeded},
		{api.State{Intents: []api.Intent{{Op: api.Delete, Held: h, Token: "t"}}}, api.ErrNeeded},
		{api.State{Outs: []api.Field{{Name: "o"}}}, api.ErrNeeded},
		{api.State{Serial: 5}, nil},
	} {
		m := machine(t, 12)
		c := opened(t, m)
		good(t, state.Save(m.D, "web", x.s), state.Save(m.D, "other", api.State{Held: []api.Held{h}}))
		if x.want == nil {
			good(t, c.Destroy(w, names("base")))
			is(t, "noted", noted(t, m), "destroy base; gone base; end")
			continue
		}
		refusal(t, m, "Destroy", func() error { return c.Destroy(w, names("base")) }, x.want)
		good(t, c.Destroy(w, names("alone"))) // nobody needs it
	}
	// who can't be read may have something
	m := machine(t, 12)
	c := opened(t, m)
	good(t, m.D.Write("state.mid", "x"))
	refusal(t, m, "Destroy", func() error { return c.Destroy(w, names("base")) }, api.ErrSum)
	good(t, c.Destroy(w, names("web")))
}

// M3: the first error ends it.
func TestDestroyErrors(t *testing.T) {
	w := work(t, four)
	m, c := laid(t, four)
	m.C.Fail(m.C.Calls() + 1)
	if err := c.Destroy(w, nil); err != api.ErrBusy {
		t.Errorf("Destroy = %v", err)
	}
	is(t, "begun", begun(c), "destroy web mid alone base/web")
	is(t, "deployed", deployed(t, c), "alone base mid")
	is(t, "locks", locked(t, m), "")
	good(t, c.Destroy(w, nil)) // W5
	is(t, "things", things(t, m), "")
	is(t, "deployed", deployed(t, c), "")
	// no token is for a second time
	good(t, c.Deploy(w, names("base")))
	is(t, "saved", saved(t, m, "base"), "3; held net main 5 {}; out id 5; out twice [5, 5]")
}

// M4
func TestPlan(t *testing.T) {
	m := machine(t, 12)
	c := opened(t, m)
	w := work(t, four)
	plan := func(name, want string) {
		t.Helper()
		refusal(t, m, "Plan", func() error {
			l, err := c.Plan(w, name)
			good(t, err)
			is(t, "plan of "+name, changes(t, l), want)
			return nil
		}, nil)
	}
	wrong := func(name string, want error) {
		t.Helper()
		refusal(t, m, "Plan of "+name, func() error {
			l, err := c.Plan(w, name)
			if len(l) != 0 {
				t.Errorf("Plan of %s = %v", name, l)
			}
			return err
		}, want)
	}
	plan("base", "create net main 0 {}")
	wrong("mid", api.ErrNone) // base has no outputs yet
	good(t, c.Deploy(w, names("base")))
	plan("base", "")
	plan("mid", "create net in 0 {on: 1, size: 3}")
	wrong("web", api.ErrNone)
	good(t, c.Deploy(w, nil))
	for _, name := range names("web mid base alone") {
		plan(name, "")
	}
	m.C.Lose(1)
	m.C.Spoil(3, read(t, "{}"))
	plan("base", "create net main 0 {}")
	plan("mid", "update net in 3 {on: 1, size: 3}")
	w = work(t, "stack mid resource box in { }")
	plan("mid", "delete net in 3 {}; create box in 0 {}")
	good(t, state.Save(m.D, "mid", api.State{Intents: []api.Intent{{Op: api.Create, Held: api.Held{Name: "x", Kind: "vm", Attrs: read(t, "{}")}, Token: "t"}}}))
	wrong("mid", api.ErrState)
	is(t, "begun", begun(c), "")
}

// The document's example, as far as it reaches this layer.
func TestExample(t *testing.T) {
	m := machine(t, 12)
	c, err := coord.Open(m, 0, func(n int) bool { return n < 2 })
	good(t, err)
	planOf := func(w api.Work, want string) {
		t.Helper()
		l, err := c.Plan(w, "web")
		good(t, err)
		is(t, "plan web", changes(t, l), want)
	}
	refused := func(what string, err, want error) {
		t.Helper()
		if err != want {
			t.Errorf("%s = %v, want %v", what, err, want)
		}
	}
	w := work(t, "stack base input size = 3 resource net main { size: in.size } output id = res.main.id stack web resource vm one { net: stack.base.id, size: (1 + 2) } resource disk two { on: res.one.id } output big = (res.one.size == 3)")
	_, err = c.Plan(w, "web")
	refused("plan web", err, api.ErrNone)
	for range 2 {
		good(t, c.Deploy(w, nil))
		is(t, "things", things(t, m), "1 net {size: 3}; 2 vm {net: 1, size: 3}; 3 disk {on: 2}")
		is(t, "state web", saved(t, m, "web"), "2; held vm one 2 {net: 1, size: 3}; held disk two 3 {on: 2}; out big true")
		is(t, "calls", strconv.Itoa(m.C.Calls()), "3")
	}
	planOf(w, "")
	w = work(t, "stack base input size = 4 resource net main { size: in.size } output id = res.main.id stack web resource box one { net: stack.base.id }")
	planOf(w, "delete vm one 2 {net: 1, size: 3}; create box one 0 {net: 1}; delete disk two 3 {on: 2}")
	m.C.Fail(m.C.Calls() + 1)
	refused("deploy", c.Deploy(w, nil), api.ErrBusy)
	is(t, "state web", saved(t, m, "web"), "2; held vm one 2 {net: 1, size: 3}; held disk two 3 {on: 2}; out big true")
	if was, err := c.Resume(w); !was || err != nil {
		t.Errorf("resume = %v, %v", was, err)
	}
	is(t, "things", things(t, m), "1 net {size: 4}; 4 box {net: 1}")
	m.C.Lose(1)
	good(t, c.Deploy(w, names("web")))
	is(t, "things", things(t, m), "4 box {net: 5}; 5 net {size: 4}")
	refused("destroy base", c.Destroy(w, names("base")), api.ErrNeeded)
	good(t, c.Destroy(w, nil))
	is(t, "things", things(t, m), "")
	is(t, "stacks", deployed(t, c), "")
	is(t, "state base", saved(t, m, "base"), "4")
	good(t, locks.Take(m.D, 1, names("web"), all))
	refused("deploy", c.Deploy(w, nil), api.ErrHeld)
	good(t, locks.Give(m.D, 1, names("web")), c.Deploy(w, names("web")))
	is(t, "things", things(t, m), "6 net {size: 4}; 7 box {net: 6}")
	refused("deploy none", c.Deploy(w, names("none")), api.ErrNone)
}
