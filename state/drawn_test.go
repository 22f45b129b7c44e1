package state_test

import (
	"strings"
	"testing"

	"wavewright/api"
	"wavewright/disk"
	"wavewright/state"
)

// dice: numbers that look drawn, the same each time.
type dice uint64

func (d *dice) below(n int) int {
	*d = *d*6364136223846793005 + 1442695040888963407
	return int(uint64(*d>>33) % uint64(n))
}

func (d *dice) number() int {
	return []int{0, 1, d.below(10), d.below(api.MaxNumber + 1), api.MaxNumber}[d.below(5)]
}

// value that may be, as one of those in each other.
func (d *dice) value(deep int) api.Value {
	kinds := 6
	if deep == api.MaxDeep {
		kinds = 4
	}
	switch d.below(kinds) {
	case 0:
		return num(d.number())
	case 1:
		return num(-d.number())
	case 2:
		b := make([]byte, d.below(12))
		for i := range b {
			b[i] = []byte{'s', 'u', 'm', ' ', '"', '\\', '\n', byte(d.below(256))}[d.below(8)]
		}
		return text(string(b))
	case 3:
		return []api.Value{{}, {Kind: api.Flag}, {Kind: api.Flag, N: 1}}[d.below(3)]
	case 4:
		v := list()
		for range d.below(3) {
			v.L = append(v.L, d.value(deep+1))
		}
		return v
	}
	return d.record(deep)
}

func (d *dice) record(deep int) api.Value {
	v := rec()
	for _, n := range []string{"a", "get", "in", "null", "sum"} {
		if d.below(3) == 0 {
			v.F = append(v.F, field(n, d.value(deep+1)))
		}
	}
	return v
}

func (d *dice) held(name string) api.Held {
	return api.Held{Name: name, Kind: []string{"vm", "sum", "held", "x9"}[d.below(4)], ID: 1 + d.number(), Attrs: d.record(4)}
}

// state that may be.
func (d *dice) state() api.State {
	s := api.State{Serial: d.number()}
	for _, n := range []string{"a", "a0", "abcdefghijkl", "b", "out", "serial", "sum"} {
		if d.below(3) == 0 {
			s.Held = append(s.Held, d.held(n))
		}
		if d.below(5) == 0 {
			s.Intents = append(s.Intents, api.Intent{Op: 1 + d.below(3), Token: []string{"a.b.0.1", ".", "sum", "0"}[d.below(4)], Held: d.held(n)})
			s.Intents[0].Held.ID = 0
		}
		if d.below(4) == 0 {
			s.Outs = append(s.Outs, field(n, d.value(3)))
		}
	}
	return s
}

// K2 to K4, W7: what is written is read, over one disk with falls between.
func TestDrawn(t *testing.T) {
	die := dice(10)
	d := disk.New()
	now := map[string]api.State{}
	for range 4000 {
		name, s := []string{"a", "web", "draft"}[die.below(3)], die.state()
		x := told(t, s)
		if len(x) > api.MaxData {
			parseWrong(t, x, api.ErrMany)
			refused(t, d, name, s, api.ErrMany)
			continue
		}
		if got, err := state.Parse(x); !same(got, s) || err != nil {
			t.Fatalf("Parse(%q) = %+v, %v", x, got, err)
		}
		if die.below(3) == 0 {
			d.Arm(die.below(4))
		}
		err := state.Save(d, name, s)
		if err == nil {
			now[name] = s
		}
		d.Restart(die.below(4)-1, die.below(len(x)+2))
		if got, loadErr := state.Load(d, name); err == api.ErrDown && loadErr == nil && same(got, s) {
			now[name] = s // it was kept
		}
		for name, s := range now {
			loads(t, d, name, s)
		}
	}
}

// K3: texts with drawn changes, and the sum that they then have: what is read is what has that text.
func TestDrawnTexts(t *testing.T) {
	die := dice(3)
	read := 0
	for range 20000 {
		x := told(t, die.state())
		lines := x[:strings.LastIndex(x, "sum ")]
		at, to := die.below(len(lines)), die.below(len(lines))
		signs := "0123456789abz \n\"{}[],:.-+"
		switch sign := string(signs[die.below(len(signs))]); die.below(4) {
		case 0:
			lines = lines[:at] + lines[at+1:]
		case 1:
			lines = lines[:at] + sign + lines[at:]
		case 2:
			lines = lines[:at] + sign + lines[at+1:]
		default:
			lines = lines[:at] + lines[to:]
		}
		x = summed(lines)
		if len(x) > api.MaxData {
			continue
		}
		s, err := state.Parse(x)
		if err == nil {
			read++
			if again := told(t, s); again != x {
				t.Errorf("Parse(%q) is a state of the text %q", x, again)
			}
		} else if err != api.ErrText || !isEmpty(s) {
			t.Errorf("Parse(%q) = %+v, %v", x, s, err)
		}
	}
	if read < 100 {
		t.Errorf("%d could be read", read)
	}
}
