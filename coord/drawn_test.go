package coord_test

import (
	"slices"
	"strconv"
	"strings"
	"testing"

	"wavewright/api"
	"wavewright/coord"
	"wavewright/engine"
	"wavewright/eval"
	"wavewright/locks"
	"wavewright/state"
)

// dice: numbers that look drawn, the same each time.
type dice uint64

func (d *dice) below(n int) int {
	*d = *d*6364136223846793005 + 1442695040888963407
	return int(uint64(*d>>33) % uint64(n))
}

// of these texts one.
func (d *dice) one(l ...string) string { return l[d.below(len(l))] }

// shuffled: the same in another order.
func (d *dice) shuffled(l []string) []string {
	l = slices.Clone(l)
	for i := range l {
		k := i + d.below(len(l)-i)
		l[i], l[k] = l[k], l[i]
	}
	return l
}

// some of these.
func (d *dice) some(l []string) []string {
	return slices.DeleteFunc(slices.Clone(l), func(string) bool { return d.below(3) > 0 })
}

// part: an expression with these resources of its own stack, and outputs of these stacks.
func (d *dice) part(own, ahead []string) string {
	switch k := d.below(10); {
	case k < 2 && len(own) > 0:
		return "res." + d.one(own...) + ".id"
	case k < 6 && len(ahead) > 0:
		return "stack." + d.one(ahead...) + ".o"
	case k == 6 && len(ahead) > 0:
		return "[stack." + d.one(ahead...) + ".o, in.i]"
	case k == 7:
		return "(in.i + " + strconv.Itoa(d.below(3)) + ")"
	case k == 8 && d.below(8) == 0:
		return `(in.i + "x")`
	}
	return d.one("1", "2", `"x"`, "null")
}

// stack of that name; it may need those ahead.
func (d *dice) stack(name string, ahead []string) string {
	s := " stack " + name + " input i = " + strconv.Itoa(d.below(3))
	var own []string
	for _, n := range []string{"c", "a", "b"} {
		if d.below(2) == 0 {
			continue
		}
		s += " resource " + d.one("vm", "vm", "disk") + " " + n + " { x: " + d.part(own, ahead) + " }"
		own = append(own, n)
	}
	return s + " output o = " + d.part(own, ahead)
}

// stacks: always of the same names, in any order, with any needs.
func (d *dice) stacks() string {
	order := d.shuffled(names("web mid base alone"))
	var l []string
	for k, name := range order {
		l = append(l, d.stack(name, order[:k]))
	}
	return strings.Join(d.shuffled(l), "")
}

// reached from these, over however many.
func reached(next [][]int, l []int) []int {
	all := slices.Clone(l)
	for k := 0; k < len(all); k++ {
		for _, n := range next[all[k]] {
			if !slices.Contains(all, n) {
				all = append(all, n)
			}
		}
	}
	return all
}

// inWaves: those of l, those first that need nobody, then those that need just them, and so on.
func inWaves(w api.Work, l []int) []string {
	var all []int
	for len(all) < len(w.Stacks) {
		ahead := slices.Clone(all)
		for i := range w.Stacks {
			waits := slices.ContainsFunc(w.Needs[i], func(n int) bool { return !slices.Contains(ahead, n) })
			if !waits && !slices.Contains(ahead, i) {
				all = append(all, i)
			}
		}
	}
	var s []string
	for _, i := range all {
		if slices.Contains(l, i) {
			s = append(s, w.Stacks[i].Name)
		}
	}
	return s
}

// numbers of the stacks that are named; none: all.
func numbers(w api.Work, targets []string) []int {
	var l []int
	for i, s := range w.Stacks {
		if len(targets) == 0 || slices.Contains(targets, s.Name) {
			l = append(l, i)
		}
	}
	return l
}

// denoted: what the stack is to have by its text, if its resources have the numbers of the state, and others the outputs of theirs.
func denoted(t *testing.T, m engine.Machine, w api.Work, i int) (api.State, error) {
	t.Helper()
	s := w.Stacks[i]
	has, err := state.Load(m.D, s.Name)
	good(t, err)
	env := eval.Env{In: map[string]api.Value{}, Res: map[string]api.Value{}, From: map[string]map[string]api.Value{}}
	for _, x := range s.Inputs {
		env.In[x.Name] = x.V
	}
	for _, other := range w.Stacks {
		env.From[other.Name] = map[string]api.Value{}
		x, err := state.Load(m.D, other.Name)
		good(t, err)
		for _, f := range x.Outs {
			env.From[other.Name][f.Name] = f.V
		}
	}
	want := api.State{Serial: has.Serial}
	for _, k := range w.Order[i] {
		r := s.Resources[k]
		v, err := eval.Eval(r.Parts[0].E, env)
		if err != nil {
			return api.State{}, err
		}
		h := api.Held{Name: r.Name, Kind: r.Kind, Attrs: api.Value{Kind: api.Rec, F: []api.Field{{Name: "x", V: v}}}}
		if at := slices.IndexFunc(has.Held, func(h api.Held) bool { return h.Name == r.Name }); at >= 0 {
			h.ID = has.Held[at].ID
		}
		env.Res[r.Name] = api.Value{Kind: api.Rec, F: []api.Field{{Name: "id", V: api.Value{Kind: api.Num, N: h.ID}}}}
		want.Held = append(want.Held, h)
	}
	slices.SortFunc(want.Held, func(a, b api.Held) int { return strings.Compare(a.Name, b.Name) })
	v, err := eval.Eval(s.Outputs[0].E, env)
	want.Outs = []api.Field{{Name: "o", V: v}}
	return want, err
}

// asDenoted: W1: has the stack just what its text denotes, and the cloud these things?
func asDenoted(t *testing.T, m engine.Machine, w api.Work, name string) {
	t.Helper()
	want, err := denoted(t, m, w, numbers(w, []string{name})[0])
	good(t, err)
	x, err := state.Text(want)
	good(t, err)
	l := strings.Split(strings.TrimSuffix(x, "\n"), "\n")
	is(t, name+" has", saved(t, m, name), strings.TrimPrefix(strings.Join(l[:len(l)-1], "; "), "serial "))
	for _, h := range want.Held {
		x, err := m.C.Read(h.ID)
		good(t, err)
		is(t, name+"."+h.Name+" is", x.Kind+" "+text(t, x.Attrs), h.Kind+" "+text(t, h.Attrs))
	}
}

// noneAstray: is each thing of the cloud held by one stack?
func noneAstray(t *testing.T, m engine.Machine) {
	t.Helper()
	owners := map[int]int{}
	for _, name := range names("web mid base alone") {
		s, err := state.Load(m.D, name)
		good(t, err)
		if len(s.Intents) > 0 {
			t.Errorf("%s: %s is left", name, s.Intents[0].Token)
		}
		for _, h := range s.Held {
			owners[h.ID]++
		}
	}
	for _, x := range m.C.All() {
		if owners[x.ID] != 1 {
			t.Errorf("%d have %d", owners[x.ID], x.ID)
		}
	}
}

// held by another one who is alive.
func heldByOthers(t *testing.T, m engine.Machine, name string) bool {
	t.Helper()
	who, had, err := locks.Owner(m.D, name)
	good(t, err)
	return had && who == 1
}

// drawing: a machine on which deeds are drawn.
type drawing struct {
	*testing.T
	die  dice
	m    engine.Machine
	c    *coord.Coord
	room int
	seen map[string]int
}

// others take things away, change them, fail, have locks.
func (x *drawing) others() {
	switch x.die.below(6) {
	case 0:
		x.m.C.Lose(1 + x.die.below(12))
	case 1:
		x.m.C.Spoil(1+x.die.below(12), read(x.T, "{x: 7}"))
	case 2:
		x.m.C.Fail(x.m.C.Calls() + x.die.below(3))
	case 3:
		good(x.T, x.m.D.Write("lock."+x.die.one("web", "mid", "base", "alone"), x.die.one("0", "1", "2")))
	case 4:
		for _, name := range names("web mid base alone") {
			good(x.T, locks.Give(x.m.D, 1, []string{name}))
		}
	}
}

// behind a deed on these stacks, one behind the other: each that is done is as it is to be, the next one has the error, and nobody else was touched.
func (x *drawing) behind(word string, l []string, ahead map[string][]string, err error, is func(name string)) {
	x.Helper()
	done := l
	if words, d := x.c.Begun(); err != nil {
		done = d
		if !slices.Equal(words, slices.Concat([]string{word}, l)) || len(done) >= len(l) || !slices.Equal(done, l[:len(done)]) {
			x.Errorf("begun: %q, done %q, of %q", words, done, l)
			return
		}
	} else if len(words) > 0 {
		x.Errorf("begun: %q", words)
	}
	for _, name := range done {
		is(name)
	}
	for _, name := range names("web mid base alone") {
		own := x.own(name)
		touched := slices.Contains(done, name) || err != nil && name == l[len(done)] && err != api.ErrHeld
		if !touched && !slices.Equal(own, ahead[name]) {
			x.Errorf("%s of %q, %v: %s was touched: %q, was %q", word, l, err, name, own, ahead[name])
		}
	}
	if err == api.ErrHeld && !heldByOthers(x.T, x.m, l[len(done)]) {
		x.Errorf("%s is not held by others", l[len(done)])
	}
	for _, name := range done {
		if had, _ := x.m.D.Read("lock." + name); had != "" {
			x.Errorf("the lock of %s is had by %s", name, had)
		}
	}
}

// own: what a stack has, its things, and, if others have it, its lock.
func (x *drawing) own(name string) []string {
	x.Helper()
	s, err := state.Load(x.m.D, name)
	good(x.T, err)
	l := []string{saved(x.T, x.m, name)}
	for _, h := range s.Held {
		if thing, err := x.m.C.Read(h.ID); err == nil {
			l = append(l, thing.Kind+" "+text(x.T, thing.Attrs))
		}
	}
	if heldByOthers(x.T, x.m, name) {
		l = append(l, "held")
	}
	return l
}

// owns: of each stack what it has.
func (x *drawing) owns() map[string][]string {
	all := map[string][]string{}
	for _, name := range names("web mid base alone") {
		all[name] = x.own(name)
	}
	return all
}

func (x *drawing) deploy(w api.Work) {
	x.Helper()
	targets := x.die.some(names("web mid base alone"))
	l := inWaves(w, reached(w.Needs, numbers(w, targets)))
	ahead := x.owns()
	err := x.c.Deploy(w, targets)
	x.behind("deploy", l, ahead, err, func(name string) { asDenoted(x.T, x.m, w, name) })
	if err != nil {
		x.seen[err.Error()]++
		_, done := x.c.Begun()
		_, why := denoted(x.T, x.m, w, numbers(w, l[len(done):len(done)+1])[0])
		if err != api.ErrBusy && err != api.ErrHeld && err != why && (err != api.ErrQuota || len(x.m.C.All()) != x.room) {
			x.Errorf("Deploy = %v", err)
		}
		return
	}
	x.seen["deployed"]++
	calls := x.m.C.Calls()
	good(x.T, x.c.Deploy(w, targets))
	for _, name := range l {
		plan, err := x.c.Plan(w, name)
		good(x.T, err)
		is(x.T, "plan of "+name, changes(x.T, plan), "")
	}
	if x.m.C.Calls() != calls {
		x.Errorf("deployed again: %d calls", x.m.C.Calls()-calls)
	}
}

func (x *drawing) destroy(w api.Work) {
	x.Helper()
	targets := x.die.some(names("web mid base alone"))
	named := numbers(w, targets)
	l := inWaves(w, named)
	slices.Reverse(l)
	ahead, notes := x.owns(), noted(x.T, x.m)
	needed := false
	for i, s := range w.Stacks {
		has := strings.Contains(ahead[s.Name][0], ";")
		under := slices.ContainsFunc(reached(w.Needs, []int{i}), func(n int) bool { return slices.Contains(named, n) })
		needed = needed || has && under && !slices.Contains(named, i)
	}
	err := x.c.Destroy(w, targets)
	if needed != (err == api.ErrNeeded) {
		x.Errorf("Destroy of %q = %v, needed: %v", targets, err, needed)
	}
	if needed {
		x.seen["needed"]++
		is(x.T, "noted", noted(x.T, x.m), notes)
		return
	}
	x.behind("destroy", l, ahead, err, func(name string) {
		if strings.Contains(saved(x.T, x.m, name), ";") {
			x.Errorf("%s has %s", name, saved(x.T, x.m, name))
		}
	})
	if err == nil {
		x.seen["destroyed"]++
	} else if err != api.ErrBusy && err != api.ErrHeld {
		x.Errorf("Destroy = %v", err)
	}
}

// resume: what was begun is at its end, or it ended with an error.
func (x *drawing) resume(w api.Work) {
	x.Helper()
	words, _ := x.c.Begun()
	was, err := x.c.Resume(w)
	if was != (len(words) > 0) || !was && err != nil {
		x.Errorf("Resume of %q = %v, %v", words, was, err)
	}
	if left, _ := x.c.Begun(); (err == nil) != (len(left) == 0) {
		x.Errorf("Resume of %q = %v, begun: %q", words, err, left)
	}
	if was && err == nil {
		x.seen["resumed"]++
		for _, name := range words[1:] {
			if words[0] == "deploy" {
				asDenoted(x.T, x.m, w, name)
			}
		}
	}
}

// M1 to M4, W1, W2, W4, W5, W6: from any stacks to any others, with what others do meanwhile.
func TestDrawn(t *testing.T) {
	x := &drawing{T: t, die: dice(9), seen: map[string]int{}}
	for range 500 {
		x.room = []int{40, 40, 5}[x.die.below(3)]
		x.m = machine(t, x.room)
		var err error
		x.c, err = coord.Open(x.m, 0, but(2))
		good(t, err)
		w := work(t, x.die.stacks())
		for range 15 {
			if x.die.below(3) == 0 {
				w = work(t, x.die.stacks())
			}
			x.others()
			switch x.die.below(6) {
			case 0, 1, 2:
				x.deploy(w)
			case 3, 4:
				x.destroy(w)
			default:
				x.resume(w)
			}
			noneAstray(t, x.m)
			var l []string
			for _, name := range names("alone base mid web") {
				if strings.Contains(saved(t, x.m, name), ";") {
					l = append(l, name)
				}
			}
			is(t, "deployed", deployed(t, x.c), strings.Join(l, " "))
			if len(x.m.C.All()) > x.room {
				t.Errorf("%d things", len(x.m.C.All()))
			}
			if t.Failed() {
				t.FailNow()
			}
		}
	}
	for what, least := range map[string]int{"deployed": 800, "destroyed": 300, "resumed": 100, "needed": 300, api.ErrBusy.Error(): 100, api.ErrHeld.Error(): 300, api.ErrQuota.Error(): 100, api.ErrKind.Error(): 100} {
		if x.seen[what] < least {
			t.Errorf("%s: %d times; all: %v", what, x.seen[what], x.seen)
		}
	}
}

// M5: two machines, one of which falls, over and over, at any deed: they have the same behind each.
func TestDrawnFalls(t *testing.T) {
	die := dice(10)
	falls := 0
	for range 300 {
		room := []int{40, 40, 5}[die.below(3)]
		m, twin := machine(t, room), machine(t, room)
		c, other := opened(t, m), opened(t, twin)
		for range 8 {
			w := work(t, die.stacks())
			targets := die.some(names("web mid base alone"))
			do := func(c *coord.Coord) error { return c.Deploy(w, targets) }
			if die.below(3) == 0 {
				do = func(c *coord.Coord) error { return c.Destroy(w, targets) }
			}
			if id := 1 + die.below(12); die.below(3) == 0 {
				m.C.Lose(id)
				twin.C.Lose(id)
			}
			want := do(other)
			m.D.Arm(die.below(80))
			got := do(c)
			for m.D.Down() {
				falls++
				m.D.Restart(die.below(5)-1, die.below(99)-1)
				m.D.Arm(die.below(160))
				if x, err := coord.Open(m, 0, all); err == nil {
					c = x
					got = do(c)
				}
			}
			m.D.Arm(-1)
			if got != want || settled(t, m) != settled(t, twin) || begun(c) != begun(other) || locked(t, m) != "" {
				t.Fatalf("%v, %s, %s, want %v, %s, %s; locks %s", got, settled(t, m), begun(c), want, settled(t, twin), begun(other), locked(t, m))
			}
		}
	}
	if falls < 500 {
		t.Errorf("%d falls", falls)
	}
}
