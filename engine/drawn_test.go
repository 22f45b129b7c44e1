package engine_test

import (
	"reflect"
	"slices"
	"strconv"
	"strings"
	"testing"

	"wavewright/api"
	"wavewright/engine"
	"wavewright/eval"
	"wavewright/state"
	"wavewright/value"
)

// dice: numbers that look drawn, the same each time.
type dice uint64

func (d *dice) below(n int) int {
	*d = *d*6364136223846793005 + 1442695040888963407
	return int(uint64(*d>>33) % uint64(n))
}

// of these texts one.
func (d *dice) one(l ...string) string { return l[d.below(len(l))] }

// part: an expression that names no other resources than these.
func (d *dice) part(names []string) string {
	switch k := d.below(9); {
	case k < 2 && len(names) > 0:
		return "res." + d.one(names...) + ".id"
	case k == 2 && len(names) > 0:
		return "[res." + d.one(names...) + ".id, in.i]"
	case k == 3:
		return "(in.i + " + strconv.Itoa(d.below(4)) + ")"
	case k == 4:
		return `(in.j == "x")`
	case k == 5:
		return "stack.base.o"
	case k == 6 && d.below(4) == 0:
		return d.one("(in.i + in.j)", "get {} a", "(1000000000 + in.i)")
	}
	return d.one("1", "2", `"x"`, "null", "{id: true}")
}

// stack web, drawn; one may be wrong.
func (d *dice) stack() string {
	var b strings.Builder
	b.WriteString("stack base output o = 1 stack web input i = " + strconv.Itoa(d.below(3)) + " input j = " + d.one(`"x"`, `"y"`) + " ")
	var names []string
	for _, n := range []string{"e", "b", "d", "a", "c"} {
		if d.below(3) == 0 {
			continue
		}
		b.WriteString("resource " + d.one("vm", "vm", "disk") + " " + n + " {")
		between := ""
		for _, p := range []string{"id", "on", "size"} {
			if d.below(2) == 0 {
				b.WriteString(between + " " + p + ": " + d.part(names))
				between = ","
			}
		}
		b.WriteString(" } ")
		names = append(names, n)
	}
	for _, n := range []string{"q", "p", "o"} {
		if d.below(2) == 0 {
			b.WriteString("output " + n + " = " + d.part(names) + " ")
		}
	}
	return b.String()
}

// denoted: by the numbers that the stack has, what it is to have, and its outputs; an error, if the text has one.
func denoted(s api.Stack, order []int, from map[string]map[string]api.Value, numbers map[string]int) ([]api.Held, []api.Field, error) {
	env := eval.Env{In: map[string]api.Value{}, Res: map[string]api.Value{}, From: from}
	for _, x := range s.Inputs {
		env.In[x.Name] = x.V
	}
	var all []api.Held
	for _, i := range order {
		h := api.Held{Name: s.Resources[i].Name, Kind: s.Resources[i].Kind, ID: numbers[s.Resources[i].Name], Attrs: api.Value{Kind: api.Rec}}
		named := []api.Field{{Name: "id", V: api.Value{Kind: api.Num, N: h.ID}}}
		for _, p := range s.Resources[i].Parts {
			v, err := eval.Eval(p.E, env)
			if err != nil {
				return nil, nil, err
			}
			h.Attrs.F = append(h.Attrs.F, api.Field{Name: p.Name, V: v})
			if p.Name != "id" {
				named = append(named, api.Field{Name: p.Name, V: v})
			}
		}
		if err := value.Check(h.Attrs); err != nil {
			return nil, nil, err
		}
		env.Res[h.Name] = api.Value{Kind: api.Rec, F: named}
		all = append(all, h)
	}
	slices.SortFunc(all, func(a, b api.Held) int { return strings.Compare(a.Name, b.Name) })
	var outs []api.Field
	for _, o := range s.Outputs {
		v, err := eval.Eval(o.E, env)
		if err != nil {
			return nil, nil, err
		}
		outs = append(outs, api.Field{Name: o.Name, V: v})
	}
	slices.SortFunc(outs, func(a, b api.Field) int { return strings.Compare(a.Name, b.Name) })
	return all, outs, nil
}

// isDenoted: W1: has the stack just what its text denotes, the cloud these things and no others?
func isDenoted(t *testing.T, m engine.Machine, text string, s api.Stack, order []int, from map[string]map[string]api.Value, got []api.Field) {
	t.Helper()
	has, err := state.Load(m.D, "web")
	good(t, err)
	numbers := map[string]int{}
	for _, h := range has.Held {
		numbers[h.Name] = h.ID
	}
	held, outs, err := denoted(s, order, from, numbers)
	good(t, err)
	want := api.State{Serial: has.Serial, Held: held, Outs: outs}
	is(t, text+": saved", lines(t, has), lines(t, want))
	is(t, text+": outputs", fields(t, got), fields(t, outs))
	slices.SortFunc(held, func(a, b api.Held) int { return a.ID - b.ID })
	var l []api.Held
	for _, x := range m.C.All() {
		l = append(l, api.Held{Kind: x.Kind, ID: x.ID, Attrs: x.Attrs})
	}
	for i := range held {
		held[i].Name = ""
	}
	is(t, text+": things", told(t, l), told(t, held))
}

func told(t *testing.T, l []api.Held) string {
	t.Helper()
	var s []api.Change
	for _, h := range l {
		s = append(s, api.Change{Op: api.Create, Held: h})
	}
	return changes(t, s)
}

// isDone: W2: was done what the plan told: as many calls, each of its kind, and for that one?
func isDone(t *testing.T, plan []api.Change, ahead, behind []api.Thing, has api.State, calls int) {
	t.Helper()
	is := func(l []api.Thing, id int) bool {
		return slices.ContainsFunc(l, func(x api.Thing) bool { return x.ID == id })
	}
	for _, c := range plan {
		at := slices.IndexFunc(has.Held, func(h api.Held) bool { return h.Name == c.Held.Name })
		switch {
		case c.Op == api.Create && (at < 0 || has.Held[at].Kind != c.Held.Kind || is(ahead, has.Held[at].ID)),
			c.Op == api.Update && (at < 0 || has.Held[at].ID != c.Held.ID || !is(ahead, c.Held.ID)),
			c.Op == api.Delete && (!is(ahead, c.Held.ID) || is(behind, c.Held.ID)):
			t.Errorf("plan: %v; behind it: %v", c, has)
		}
	}
	if calls != len(plan) {
		t.Errorf("%d calls, planned %s", calls, changes(t, plan))
	}
}

// W1, W2, W5, L1 to L6: from any text to any other one, with what others do meanwhile.
func TestDrawn(t *testing.T) {
	die := dice(8)
	wrong, right := 0, 0
	for range 400 {
		m := machine(t, 12)
		for range 12 {
			x := die.stack()
			s, order := one(t, x)
			from := map[string]map[string]api.Value{"base": {"o": {Kind: api.Num, N: die.below(3)}}}
			for range die.below(3) {
				m.C.Lose(1 + die.below(12))
				m.C.Spoil(1+die.below(12), read(t, "{size: 1}"))
			}
			ahead, kept, steps, calls := m.C.All(), files(t, m.D), m.D.Steps(), m.C.Calls()
			plan, planErr := engine.Plan(m, s, order, from)
			if m.D.Steps() != steps || m.C.Calls() != calls || !reflect.DeepEqual(m.C.All(), ahead) || !slices.Equal(files(t, m.D), kept) {
				t.Fatalf("%s: Plan changed something", x)
			}
			outs, err := engine.Deploy(m, s, order, from)
			if err != nil {
				wrong++
				if _, _, want := denoted(s, order, from, nil); err != want || len(outs) != 0 || len(plan) != 0 && planErr != nil {
					t.Fatalf("%s: Deploy = %v, %v, want %v; Plan = %v, %v", x, outs, err, want, plan, planErr)
				}
				continue
			}
			right++
			good(t, planErr)
			has, err := state.Load(m.D, "web")
			good(t, err)
			isDenoted(t, m, x, s, order, from, outs)
			isDone(t, plan, ahead, m.C.All(), has, m.C.Calls()-calls)
			calls = m.C.Calls()
			again, err := engine.Deploy(m, s, order, from)
			good(t, err)
			is(t, x+": outputs again", fields(t, again), fields(t, outs))
			behind, err := engine.Plan(m, s, order, from)
			if len(behind) != 0 || err != nil || m.C.Calls() != calls {
				t.Errorf("%s: deployed again: %d calls, Plan = %v, %v", x, m.C.Calls()-calls, behind, err)
			}
			if die.below(6) == 0 {
				good(t, engine.Destroy(m, "web"))
				is(t, "things", things(t, m), "")
			}
			if t.Failed() {
				t.FailNow()
			}
		}
	}
	if wrong < 200 || right < 2000 {
		t.Errorf("%d were wrong, %d right", wrong, right)
	}
}
