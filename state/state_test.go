package state_test

import (
	"math"
	"strings"
	"testing"

	"wavewright/api"
	"wavewright/state"
	"wavewright/value"
)

func num(n int) api.Value { return api.Value{Kind: api.Num, N: n} }

func text(s string) api.Value { return api.Value{Kind: api.Text, S: s} }

func list(l ...api.Value) api.Value { return api.Value{Kind: api.List, L: l} }

func field(name string, v api.Value) api.Field { return api.Field{Name: name, V: v} }

func rec(f ...api.Field) api.Value { return api.Value{Kind: api.Rec, F: f} }

// size: attributes with one number.
func size(n int) api.Value { return rec(field("size", num(n))) }

func held(name string, id int) api.Held {
	return api.Held{Name: name, Kind: "vm", ID: id, Attrs: size(id)}
}

func intent(op int, name string, id int) api.Intent {
	return api.Intent{Op: op, Held: held(name, id), Token: "web." + name + ".7.1"}
}

// deep: lists in each other, so many.
func deep(n int) api.Value {
	v := list()
	for range n - 1 {
		v = list(v)
	}
	return v
}

// endless: a list that has itself in it.
func endless() api.Value {
	l := make([]api.Value, 2)
	l[0], l[1] = list(l...), list(l...)
	return list(l...)
}

// site: a state with some of all.
func site() api.State {
	return api.State{
		Serial:  7,
		Held:    []api.Held{held("one", 2), held("two", 3)},
		Intents: []api.Intent{intent(api.Create, "three", 0), intent(api.Update, "one", 2), intent(api.Delete, "two", 3)},
		Outs:    []api.Field{field("big", api.Value{Kind: api.Flag, N: 1}), field("id", num(2))},
	}
}

// same: are both states the same, in all?
func same(a, b api.State) bool {
	if a.Serial != b.Serial || len(a.Held) != len(b.Held) || len(a.Intents) != len(b.Intents) {
		return false
	}
	for i := range a.Held {
		if !sameHeld(a.Held[i], b.Held[i]) {
			return false
		}
	}
	for i := range a.Intents {
		x, y := a.Intents[i], b.Intents[i]
		if x.Op != y.Op || x.Token != y.Token || !sameHeld(x.Held, y.Held) {
			return false
		}
	}
	return value.Alike(rec(a.Outs...), rec(b.Outs...))
}

func sameHeld(a, b api.Held) bool {
	return a.Name == b.Name && a.Kind == b.Kind && a.ID == b.ID && value.Alike(a.Attrs, b.Attrs)
}

func isEmpty(s api.State) bool { return same(s, api.State{}) }

// names: so many, rising.
func names(n int) []string {
	var l []string
	for i := range n {
		l = append(l, "n"+string(rune('a'+i)))
	}
	return l
}

// crowd: so many that are held, Intents, and Outs.
func crowd(helds, intents, outs int) api.State {
	var s api.State
	for i, n := range names(helds) {
		s.Held = append(s.Held, held(n, i+1))
	}
	for i, n := range names(intents) {
		s.Intents = append(s.Intents, intent(i%3+1, n, i))
	}
	for i, n := range names(outs) {
		s.Outs = append(s.Outs, field(n, num(i)))
	}
	return s
}

// changed: the state with some of all, but for one change.
func changed(change func(*api.State)) api.State {
	s := site()
	change(&s)
	return s
}

// K1
func TestCheckGood(t *testing.T) {
	good := []api.State{
		{},
		{Serial: api.MaxNumber},
		site(),
		crowd(2*api.MaxItems, api.MaxItems, api.MaxItems),
		{Held: []api.Held{{Name: "a", Kind: "b", ID: math.MaxInt, Attrs: rec()}}},
		{Held: []api.Held{held("abcdefghijk0", 1)}},
		{Held: []api.Held{held("a", 2), held("a0", 2), held("ab", 1), held("b", 2)}}, // the numbers need not be different ones
		changed(func(s *api.State) { s.Held[0].Attrs = rec(field("a", deep(api.MaxDeep-1))) }),
		changed(func(s *api.State) { s.Outs[1].V = deep(api.MaxDeep) }),
		changed(func(s *api.State) { s.Outs[0].V = api.Value{} }),
		// Intents: in any order, also of one name, and of one token
		{Intents: []api.Intent{intent(api.Delete, "b", 1), intent(api.Create, "a", 0), intent(api.Create, "a", 0)}},
		changed(func(s *api.State) { s.Intents[1].Held.ID = 0 }),
		changed(func(s *api.State) { s.Intents[0].Token = strings.Repeat("z", 3*api.MaxName) }),
		changed(func(s *api.State) { s.Intents[0].Token = "." }),
		changed(func(s *api.State) { s.Intents[0].Token = "0" }),
	}
	for i, s := range good {
		if err := state.Check(s); err != nil {
			t.Errorf("case %d: Check(%+v) = %v", i, s, err)
		}
	}
}

type wrong struct {
	what   string
	change func(*api.State)
	want   error
}

// checkWrong: is each of these changes an error, that Check and Text tell?
func checkWrong(t *testing.T, cases []wrong) {
	t.Helper()
	for _, c := range cases {
		s := changed(c.change)
		if err := state.Check(s); err != c.want {
			t.Errorf("%s: Check = %v, want %v", c.what, err, c.want)
		}
		if told, err := state.Text(s); told != "" || err != c.want {
			t.Errorf("%s: Text = %q, %v, want nothing, %v", c.what, told, err, c.want)
		}
	}
}

// K1, K2
func TestCheckWrong(t *testing.T) {
	checkWrong(t, []wrong{
		{"Serial below 0", func(s *api.State) { s.Serial = -1 }, api.ErrBound},
		{"Serial least of all", func(s *api.State) { s.Serial = math.MinInt }, api.ErrBound},
		{"Serial too great", func(s *api.State) { s.Serial = api.MaxNumber + 1 }, api.ErrBound},
		{"too many held", func(s *api.State) { *s = crowd(2*api.MaxItems+1, 0, 0) }, api.ErrMany},
		{"too many Intents", func(s *api.State) { *s = crowd(0, api.MaxItems+1, 0) }, api.ErrMany},
		{"too many Outs", func(s *api.State) { *s = crowd(0, 0, api.MaxItems+1) }, api.ErrMany},

		{"held: no name", func(s *api.State) { s.Held[0].Name = "" }, api.ErrShape},
		{"held: a name too long", func(s *api.State) { s.Held[1].Name = "twoabcdefghij" }, api.ErrShape},
		{"held: no kind", func(s *api.State) { s.Held[1].Kind = "" }, api.ErrShape},
		{"held: a kind that is none", func(s *api.State) { s.Held[0].Kind = "v m" }, api.ErrShape},
		{"held: number 0", func(s *api.State) { s.Held[1].ID = 0 }, api.ErrShape},
		{"held: number below 0", func(s *api.State) { s.Held[0].ID = -1 }, api.ErrShape},
		{"held: no attributes", func(s *api.State) { s.Held[0].Attrs = api.Value{} }, api.ErrShape},
		{"held: a list of attributes", func(s *api.State) { s.Held[0].Attrs = list() }, api.ErrShape},
		{"held: attributes that are none", func(s *api.State) { s.Held[0].Attrs.N = 1 }, api.ErrShape},
		{"held: attributes not rising", func(s *api.State) { s.Held[0].Attrs = rec(field("b", num(1)), field("a", num(1))) }, api.ErrShape},
		{"held: attributes too deep", func(s *api.State) { s.Held[1].Attrs = rec(field("a", deep(api.MaxDeep))) }, api.ErrMany},
		{"held: endless attributes", func(s *api.State) { s.Held[0].Attrs = rec(field("a", endless())) }, api.ErrMany},
		{"held: a name twice", func(s *api.State) { s.Held[1].Name = "one" }, api.ErrShape},
		{"held: falling names", func(s *api.State) { s.Held[1].Name = "on" }, api.ErrShape},

		{"intent: no name", func(s *api.State) { s.Intents[0].Held.Name = "" }, api.ErrShape},
		{"intent: no kind", func(s *api.State) { s.Intents[2].Held.Kind = "0" }, api.ErrShape},
		{"intent: number below 0", func(s *api.State) { s.Intents[1].Held.ID = -1 }, api.ErrShape},
		{"intent: attributes of another kind", func(s *api.State) { s.Intents[1].Held.Attrs = num(1) }, api.ErrShape},
		{"intent: attributes too many", func(s *api.State) {
			s.Intents[1].Held.Attrs = rec(field("a", list(make([]api.Value, api.MaxParts)...)))
		}, api.ErrMany},
		{"intent: Op 0", func(s *api.State) { s.Intents[0].Op = 0 }, api.ErrShape},
		{"intent: Op below 0", func(s *api.State) { s.Intents[0].Op = -1 }, api.ErrShape},
		{"intent: Op too great", func(s *api.State) { s.Intents[2].Op = api.Delete + 1 }, api.ErrShape},
		{"intent: no token", func(s *api.State) { s.Intents[0].Token = "" }, api.ErrShape},
		{"intent: a token too long", func(s *api.State) { s.Intents[0].Token = strings.Repeat("z", 3*api.MaxName+1) }, api.ErrShape},
		{"intent: a token with a great letter", func(s *api.State) { s.Intents[2].Token = "web.A" }, api.ErrShape},
		{"intent: a token with a blank", func(s *api.State) { s.Intents[2].Token = "web a" }, api.ErrShape},
		{"intent: a token with an end of a line", func(s *api.State) { s.Intents[2].Token = "web\n" }, api.ErrShape},

		{"out: no name", func(s *api.State) { s.Outs[0].Name = "" }, api.ErrShape},
		{"out: a name that is none", func(s *api.State) { s.Outs[1].Name = "id.x" }, api.ErrShape},
		{"out: a name twice", func(s *api.State) { s.Outs[1].Name = "big" }, api.ErrShape},
		{"out: falling names", func(s *api.State) { s.Outs[1].Name = "a" }, api.ErrShape},
		{"out: a value that is none", func(s *api.State) { s.Outs[1].V.N = api.MaxNumber + 1 }, api.ErrShape},
		{"out: a value too deep", func(s *api.State) { s.Outs[0].V = deep(api.MaxDeep + 1) }, api.ErrMany},
		{"out: an endless value", func(s *api.State) { s.Outs[0].V = endless() }, api.ErrMany},
	})
}

// K1, Z3: of several errors the one that is named first.
func TestCheckFirstError(t *testing.T) {
	tooDeep := rec(field("a", deep(api.MaxDeep)))
	checkWrong(t, []wrong{
		{"Serial ahead of how many", func(s *api.State) { *s = crowd(99, 99, 99); s.Serial = -1 }, api.ErrBound},
		{"how many ahead of what they are", func(s *api.State) { s.Held[0].Name = ""; s.Outs = crowd(0, 0, 9).Outs }, api.ErrMany},
		{"the first one held", func(s *api.State) { s.Held[0].Attrs = tooDeep; s.Held[1].Name = "" }, api.ErrMany},
		{"the first one held, by its number", func(s *api.State) { s.Held[0].ID = 0; s.Held[1].Attrs = tooDeep }, api.ErrShape},
		{"held: name ahead of attributes", func(s *api.State) { s.Held[0].Name = ""; s.Held[0].Attrs = tooDeep }, api.ErrShape},
		{"held: number below 0 ahead of attributes", func(s *api.State) { s.Held[0].ID = -1; s.Held[0].Attrs = tooDeep }, api.ErrShape},
		{"held: their kind ahead of attributes", func(s *api.State) { s.Held[0].Attrs = deep(9) }, api.ErrShape},
		{"held: attributes ahead of number 0", func(s *api.State) { s.Held[0].ID = 0; s.Held[0].Attrs = tooDeep }, api.ErrMany},
		{"held: attributes ahead of names that fall", func(s *api.State) { s.Held[1].Name = "a"; s.Held[1].Attrs = tooDeep }, api.ErrMany},
		{"held ahead of Intents", func(s *api.State) { s.Held[1].ID = 0; s.Intents[0].Held.Attrs = tooDeep }, api.ErrShape},
		{"intent: attributes ahead of Op", func(s *api.State) { s.Intents[0].Op = 0; s.Intents[0].Held.Attrs = tooDeep }, api.ErrMany},
		{"intent: attributes ahead of its token", func(s *api.State) { s.Intents[0].Token = ""; s.Intents[0].Held.Attrs = tooDeep }, api.ErrMany},
		{"intent: name ahead of attributes", func(s *api.State) { s.Intents[0].Held.Name = ""; s.Intents[0].Held.Attrs = tooDeep }, api.ErrShape},
		{"the first Intent", func(s *api.State) { s.Intents[0].Op = 0; s.Intents[1].Held.Attrs = tooDeep }, api.ErrShape},
		{"Intents ahead of Outs", func(s *api.State) { s.Intents[2].Token = ""; s.Outs[0].V = deep(9) }, api.ErrShape},
		{"out: name ahead of value", func(s *api.State) { s.Outs[0].Name = ""; s.Outs[0].V = deep(9) }, api.ErrShape},
		{"out: falling name ahead of value", func(s *api.State) { s.Outs[1].Name = "a"; s.Outs[1].V = deep(9) }, api.ErrShape},
		{"the first of Outs", func(s *api.State) { s.Outs[0].V = deep(9); s.Outs[1].Name = "" }, api.ErrMany},
	})
}

// Z2: what is handed in stays as it is, and what stands behind it is not read.
func TestHandedInStays(t *testing.T) {
	s := crowd(9, 6, 6)
	s.Held[8].Name, s.Intents[5].Op, s.Outs[5].Name = "", 9, "" // behind
	s.Held, s.Intents, s.Outs = s.Held[:8], s.Intents[:5], s.Outs[:5]
	want := crowd(8, 5, 5)
	told, err := state.Text(s)
	if wanted, _ := state.Text(want); told != wanted || err != nil || !same(s, want) {
		t.Errorf("Text = %q, %v, want %q", told, err, wanted)
	}
}
