package engine_test

import (
	"strings"
	"testing"

	"wavewright/api"
	"wavewright/cloud"
	"wavewright/engine"
)

// deed on a machine.
type deed = func(t *testing.T, m engine.Machine) error

// deploying a text.
func deploying(s string) deed {
	return func(t *testing.T, m engine.Machine) error {
		_, err := deploy(t, m, s)
		return err
	}
}

func destroying(_ *testing.T, m engine.Machine) error { return engine.Destroy(m, "web") }

// laid: a machine with that text deployed, and with what others did since.
func laid(t *testing.T, s string, others func(*cloud.Cloud)) engine.Machine {
	t.Helper()
	m := machine(t, 12)
	deployed(t, m, s)
	others(m.C)
	return m
}

func nobody(*cloud.Cloud) {}

// everyFall: W3: at every step, and whatever is kept, the deed done again leaves the cloud, and the state, as without a fall; as many calls are made as without it, but for the one that was being made.
func everyFall(t *testing.T, what, from string, others func(*cloud.Cloud), do deed) {
	t.Helper()
	plain := laid(t, from, others)
	good(t, do(t, plain))
	things, state, calls := things(t, plain), saved(t, plain), plain.C.Calls()
	for steps := 0; ; steps++ {
		fallen := false
		for keep := -1; keep <= 4; keep++ {
			for _, torn := range []int{-1, 0, 1, 30, 4000} {
				m := laid(t, from, others)
				m.D.Arm(steps)
				err := do(t, m)
				if fallen = err != nil; fallen && (err != api.ErrDown || !m.D.Down()) {
					t.Fatalf("%s with %d steps left = %v", what, steps, err)
				}
				m.D.Restart(keep, torn)
				good(t, do(t, m))
				same(t, what, m, things, state)
				if n := m.C.Calls() - calls; n < 0 || n > 1 {
					t.Fatalf("%s, %d steps, Restart(%d, %d): %d calls more", what, steps, keep, torn, n)
				}
			}
		}
		if !fallen {
			return
		}
	}
}

// same: are the things, and what the stack has, those?
func same(t *testing.T, what string, m engine.Machine, all, state string) {
	t.Helper()
	if things(t, m) != all || saved(t, m) != state {
		t.Fatalf("%s:\n%s\n%s\nwant\n%s\n%s", what, things(t, m), saved(t, m), all, state)
	}
}

// W3, L2, L3
func TestFalls(t *testing.T) {
	a := "stack web resource vm a { x: 1 } resource vm b { on: res.a.id } resource disk c { on: res.b.id } output o = res.c.id"
	b := "stack web resource box a { x: 1 } resource vm b { on: res.a.id } resource disk d { on: [res.a.id, res.b.id] } output o = res.d.id output p = 1"
	lost := func(c *cloud.Cloud) { c.Lose(1); c.Spoil(2, read(t, "{y: 7}")) }
	everyFall(t, "from nothing to a", "stack web", nobody, deploying(a))
	everyFall(t, "from a to a", a, nobody, deploying(a))
	everyFall(t, "from a to b", a, nobody, deploying(b))
	everyFall(t, "from b to a", b, nobody, deploying(a))
	everyFall(t, "from a, lost, to a", a, lost, deploying(a))
	everyFall(t, "from b, lost, to a", b, lost, deploying(a))
	everyFall(t, "from a to nothing", a, nobody, deploying("stack web"))
	everyFall(t, "from a, destroyed", a, nobody, destroying)
	everyFall(t, "from b, lost, destroyed", b, lost, destroying)
}

// W3: what falls may be followed by another deed as well: nothing is there that is not held.
func TestAnotherDeed(t *testing.T) {
	a := "stack web resource vm a { x: 1 } resource vm b { on: res.a.id } output o = res.b.id"
	b := "stack web resource box b { x: 2 }"
	for steps := range 40 {
		for keep := range 4 {
			m := laid(t, a, nobody)
			m.D.Arm(steps)
			_, err := deploy(t, m, b)
			m.D.Restart(keep, 9)
			if err == nil {
				return
			}
			deployed(t, m, a)
			is(t, "plan", planned(t, m, a), "")
			if n := len(m.C.All()); n != 2 {
				t.Errorf("%d steps: things %s", steps, things(t, m))
			}
			good(t, engine.Destroy(m, "web"))
			is(t, "things", things(t, m), "")
		}
	}
	t.Errorf("it falls always")
}

// W3, W5: falls, one behind the other, and calls that fail, drawn: in the end all is as without them.
func TestManyFalls(t *testing.T) {
	a := "stack web resource vm a { x: 1 } resource vm b { on: res.a.id } resource disk c { on: res.b.id } output o = 1"
	b := "stack web resource box a { x: 1 } resource vm b { on: res.a.id } resource disk d { on: [res.a.id, res.b.id] } output p = 1"
	die := dice(12)
	plain := laid(t, a, nobody)
	deployed(t, plain, b)
	for range 500 {
		m := laid(t, a, nobody)
		for try := 0; ; try++ {
			if try < 20 {
				m.D.Arm(die.below(16))
				if die.below(3) == 0 {
					m.C.Fail(m.C.Calls() + die.below(4))
				}
			}
			_, err := deploy(t, m, b)
			down := m.D.Down()
			m.D.Restart(die.below(6)-1, die.below(200)-1)
			if err == nil {
				break
			}
			if err != api.ErrBusy && (err != api.ErrDown || !down) || try > 40 {
				t.Fatalf("Deploy = %v", err)
			}
		}
		same(t, "many falls", m, things(t, plain), saved(t, plain))
	}
}

// L3: a call that the cloud refuses, and a fall ahead of that being saved: what is noted is finished, or dropped, by who begins next.
func TestRefusedAndFallen(t *testing.T) {
	s := "stack web resource vm a { } resource vm b { }"
	for _, quota := range []int{1, 12} {
		for steps := 11; steps < 14; steps++ { // of the first one seven, of the second one four with its call
			for keep := range 4 {
				m := machine(t, quota)
				if quota > 1 {
					m.C.Fail(1)
				}
				m.D.Arm(steps)
				_, err := deploy(t, m, s)
				if err == nil {
					t.Fatalf("%d steps: Deploy = %v", steps, err)
				}
				m.D.Restart(keep, 0)
				_, err = deploy(t, m, s)
				if quota == 1 {
					if err != api.ErrQuota || strings.Contains(saved(t, m), "intent") {
						t.Errorf("Deploy = %v, saved %s", err, saved(t, m))
					}
					is(t, "things", things(t, m), "1 vm {}")
					continue
				}
				good(t, err)
				is(t, "things", things(t, m), "1 vm {}; 2 vm {}")
				is(t, "saved", saved(t, m), "2; held vm a 1 {}; held vm b 2 {}")
			}
		}
	}
}
