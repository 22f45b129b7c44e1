package coord_test

import (
	"slices"
	"strconv"
	"strings"
	"testing"

	"wavewright/api"
	"wavewright/cloud"
	"wavewright/coord"
	"wavewright/engine"
)

// deed of a coord.
type deed = func(*coord.Coord) error

func deploying(t *testing.T, s string, targets ...string) deed {
	w := work(t, s)
	return func(c *coord.Coord) error { return c.Deploy(w, targets) }
}

func destroying(t *testing.T, s string, targets ...string) deed {
	w := work(t, s)
	return func(c *coord.Coord) error { return c.Destroy(w, targets) }
}

func resuming(t *testing.T, s string) deed {
	w := work(t, s)
	return func(c *coord.Coord) error {
		_, err := c.Resume(w)
		return err
	}
}

// changed: other kinds, attributes, names, and needs than four has.
const changed = `
stack base resource box main { } resource net other { x: 1 } output id = res.main.id
stack web resource vm one { net: stack.base.id } resource disk two { on: res.one.id }
stack alone resource vm y { on: stack.base.id } output o = res.y.id
stack mid input size = 4 resource net in { on: stack.alone.o, size: in.size } output id = res.in.id`

// settled: what there is: things, and what each stack has.
func settled(t *testing.T, m engine.Machine) string {
	t.Helper()
	s := things(t, m)
	for _, name := range names("web mid base alone") {
		s += "\n" + name + ": " + saved(t, m, name)
	}
	return s
}

// site: a machine to do a deed on, made anew each time.
type site func() engine.Machine

// everyFall: M5, W3: at every step, and whatever is kept: opened again, the same deed done again leaves the cloud, and the states, as without a fall; no lock is left, nothing is begun any more, and no more calls are made than that one that was being made.
func everyFall(t *testing.T, what string, from site, do, again deed) {
	t.Helper()
	plain := from()
	good(t, do(opened(t, plain)))
	want, calls := settled(t, plain), plain.C.Calls()
	for steps := 0; ; steps++ {
		fallen := false
		for keep := range 4 { // there are never more changes that are not kept
			for _, torn := range []int{-1, 1, 30} {
				m := from()
				c := opened(t, m)
				m.D.Arm(steps)
				err := do(c)
				if fallen = err != nil; fallen && (err != api.ErrDown || !m.D.Down()) {
					t.Fatalf("%s with %d steps left = %v", what, steps, err)
				}
				m.D.Restart(keep, torn)
				c = opened(t, m)
				if words, _ := c.Begun(); fallen && again != nil && len(words) > 0 {
					good(t, again(c))
				} else {
					good(t, do(c))
				}
				where := what + ", " + strconv.Itoa(steps) + " steps, Restart(" + strconv.Itoa(keep) + ", " + strconv.Itoa(torn) + ")"
				is(t, where, settled(t, m), want)
				is(t, where+": locks", locked(t, m), "")
				is(t, where+": begun", begun(c), "")
				if n := m.C.Calls() - calls; n < 0 || n > 1 {
					t.Errorf("%s: %d calls more", where, n)
				}
				if t.Failed() {
					t.FailNow()
				}
			}
		}
		if !fallen {
			return
		}
	}
}

// siteOf a text that is deployed, and what others did since.
func siteOf(t *testing.T, s string, others func(*cloud.Cloud)) site {
	return func() engine.Machine {
		m, _ := laid(t, s)
		others(m.C)
		return m
	}
}

func nobody(*cloud.Cloud) {}

// M5, W3
func TestFalls(t *testing.T) {
	lost := func(c *cloud.Cloud) { c.Lose(1); c.Lose(4); c.Spoil(3, read(t, "{y: 7}")) }
	for _, again := range []deed{nil, resuming(t, four)} {
		everyFall(t, "from nothing to four", siteOf(t, "", nobody), deploying(t, four), again)
		everyFall(t, "from four to four", siteOf(t, four, nobody), deploying(t, four), again)
		everyFall(t, "from changed to four", siteOf(t, changed, nobody), deploying(t, four), again)
		everyFall(t, "from four, lost, to four", siteOf(t, four, lost), deploying(t, four), again)
		everyFall(t, "web", siteOf(t, "", nobody), deploying(t, four, "web"), again)
		everyFall(t, "from changed, lost, to mid of four", siteOf(t, changed, lost), deploying(t, four, "mid"), again)
		everyFall(t, "four, destroyed", siteOf(t, four, nobody), destroying(t, four), again)
		everyFall(t, "four, lost, destroyed", siteOf(t, four, lost), destroying(t, four), again)
		everyFall(t, "web and mid, destroyed", siteOf(t, four, nobody), destroying(t, four, "mid", "web"), again)
	}
	everyFall(t, "from four to changed", siteOf(t, four, nobody), deploying(t, changed), nil)
	everyFall(t, "from four to changed", siteOf(t, four, nobody), deploying(t, changed), resuming(t, changed))
}

// M5: also with so much noted already that the journal is cleared.
func TestFallsAtClearing(t *testing.T) {
	full := func() engine.Machine {
		return journal(t, slices.Repeat([]string{strings.Repeat("x", api.MaxRecord-40)}, 10)...)
	}
	everyFall(t, "a journal that is full", full, deploying(t, four), nil)
	everyFall(t, "a journal that is full", full, deploying(t, four), resuming(t, four))
}

// M5: also on a disk on which there is just as much room as without a fall is needed: no lock that a fall left takes the room of another one.
func TestFallsOnAFullDisk(t *testing.T) {
	filled := func(s string, left int) site {
		return func() engine.Machine {
			m, _ := laid(t, s)
			l, err := m.D.List()
			good(t, err)
			for i := range api.MaxFiles - len(l) - left {
				good(t, m.D.Write("f"+strconv.Itoa(i), ""))
			}
			good(t, m.D.Sync())
			return m
		}
	}
	// of the first one four states are new; beside them a lock, and what is being saved
	for _, x := range []struct {
		s    string
		left int
		do   deed
	}{
		{"", 6, deploying(t, four)}, {four, 2, deploying(t, changed)}, {changed, 2, deploying(t, four)}, {four, 2, deploying(t, four)}, {four, 2, destroying(t, four)},
	} {
		m := filled(x.s, x.left-1)()
		if err := x.do(opened(t, m)); err != api.ErrMany {
			t.Fatalf("with less room: %v", err)
		}
		everyFall(t, "a full disk", filled(x.s, x.left), x.do, nil)
	}
}

// M5, W3, W5: falls, one behind the other, also while it is opened, and calls that fail: in the end all is as without them.
func TestManyFalls(t *testing.T) {
	die := dice(13)
	for _, x := range []struct {
		from string
		do   deed
	}{{four, deploying(t, changed)}, {changed, deploying(t, four)}, {four, destroying(t, four)}, {"", deploying(t, four, "web", "alone")}} {
		plain, c := laid(t, x.from)
		good(t, x.do(c))
		for range 150 {
			m, _ := laid(t, x.from)
			for try := 0; ; try++ {
				if try < 20 {
					m.D.Arm(die.below(40))
					if die.below(3) == 0 {
						m.C.Fail(m.C.Calls() + die.below(4))
					}
				}
				err := openedAnd(m, x.do)
				down := m.D.Down()
				m.D.Restart(die.below(6)-1, die.below(200)-1)
				if err == nil {
					break
				}
				if err != api.ErrBusy && (err != api.ErrDown || !down) || try > 40 {
					t.Fatalf("try %d: %v", try, err)
				}
			}
			is(t, "many falls", settled(t, m), settled(t, plain))
			is(t, "locks", locked(t, m), "")
			if t.Failed() {
				t.FailNow()
			}
		}
	}
}

func openedAnd(m engine.Machine, do deed) error {
	c, err := coord.Open(m, 0, all)
	if err != nil {
		return err
	}
	return do(c)
}

// W3, W6: who fell, and is not alive any more, is followed by another owner; one who is alive is not.
func TestFollowed(t *testing.T) {
	w := work(t, four)
	plain, _ := laid(t, four)
	held := 0
	for steps := range 100 {
		m := machine(t, 12)
		c, err := coord.Open(m, 3, all)
		good(t, err)
		m.D.Arm(steps)
		err = c.Deploy(w, nil)
		m.D.Restart(3, 0)
		if err == nil {
			break
		}
		left := locked(t, m)
		c, err = coord.Open(m, 1, all)
		good(t, err)
		ahead := settled(t, m)
		if err := c.Deploy(w, nil); left != "" {
			held++
			name, _, _ := strings.Cut(left, "=")
			if err != api.ErrHeld || locked(t, m) != left {
				t.Fatalf("Deploy = %v; locks %s, were %s", err, locked(t, m), left)
			}
			line := func(s string) string {
				_, x, _ := strings.Cut(s, "\n"+name+": ")
				x, _, _ = strings.Cut(x, "\n")
				return x
			}
			is(t, "not touched", line(settled(t, m)), line(ahead))
		} else {
			good(t, err)
		}
		c, err = coord.Open(m, 1, but(3))
		good(t, err)
		if _, err := c.Resume(w); err != nil {
			t.Fatalf("Resume = %v", err)
		}
		is(t, "things", things(t, m), things(t, plain))
		is(t, "locks", locked(t, m), "")
	}
	if held < 30 {
		t.Errorf("a lock was left %d times", held)
	}
}
