package coord_test

import (
	"slices"
	"strconv"
	"strings"
	"testing"

	"wavewright/api"
	"wavewright/coord"
	"wavewright/engine"
	"wavewright/walog"
)

// journal: a machine with these records in it.
func journal(t *testing.T, records ...string) engine.Machine {
	t.Helper()
	m := machine(t, 12)
	l, err := walog.Open(m.D, "journal")
	good(t, err)
	for _, r := range records {
		good(t, l.Add(r))
	}
	return m
}

// M4
func TestBegun(t *testing.T) {
	for _, x := range []struct {
		records []string
		want    string
	}{
		{nil, ""},
		{[]string{"deploy a"}, "deploy a/"},
		{[]string{"deploy a b c", "commit a", "commit b"}, "deploy a b c/a b"},
		{[]string{"destroy c b a", "gone c"}, "destroy c b a/c"},
		{[]string{"deploy a", "commit a", "end"}, ""},
		{[]string{"deploy a b", "commit a", "deploy b"}, "deploy b/"},
		{[]string{"deploy a b", "commit a", "destroy b a", "gone b", "gone a"}, "destroy b a/b a"},
		{[]string{"deploy a b", "commit a", "destroy b a", "gone b", "gone a", "end"}, ""},
		{[]string{"deploy a", "end", "destroy a"}, "destroy a/"},
		{[]string{"deploy"}, "deploy/"},
		{[]string{"deploy", "end"}, ""},
		{[]string{"end", "end"}, ""},
		{[]string{"commit a"}, ""}, {[]string{"deploy a", "end", "commit a", "gone b"}, ""}, // nothing was begun
		{[]string{""}, ""}, {[]string{"deploy a", "", " ", "x", "deployed", "commit", "\x00"}, "deploy a/"}, // what nobody notes
	} {
		m := journal(t, x.records...)
		c, steps := opened(t, m), m.D.Steps()
		for range 2 { // also while the disk is down
			is(t, strings.Join(x.records, "; ")+": begun", begun(c), x.want)
			if m.D.Steps() != steps {
				t.Errorf("Begun made %d steps", m.D.Steps()-steps)
			}
			words, done := c.Begun() // Z2
			for _, l := range [][]string{words, done} {
				for i := range l {
					l[i] = "mine"
				}
				_ = append(l[:len(l):cap(l)], "mine")
			}
			fell(t, m.D)
		}
		is(t, strings.Join(x.records, "; ")+": noted", begun(c), x.want)
	}
}

// M4: nothing was begun: nothing is done.
func TestResumeNothing(t *testing.T) {
	w := work(t, four)
	for _, records := range [][]string{nil, {"deploy base", "commit base", "end"}} {
		m := journal(t, records...)
		c := opened(t, m)
		for range 2 {
			refusal(t, m, "Resume", func() error {
				was, err := c.Resume(w)
				if was {
					t.Error("Resume: something was begun")
				}
				return err
			}, nil)
		}
		fell(t, m.D)
		if was, err := c.Resume(w); was || err != nil {
			t.Errorf("Resume = %v, %v", was, err)
		}
	}
}

// M4: what was begun is done anew, with all of its names.
func TestResume(t *testing.T) {
	w := work(t, four)
	for _, x := range []struct{ records, noted, has, things string }{
		{"deploy base mid; commit base", "deploy base mid; commit base; commit mid; end", "alone base mid web", "1 net {}; 2 vm {}; 3 net {on: 1, size: 3}; 4 vm {net: 3}"},
		{"destroy web", "destroy web; gone web; end", "alone base mid", "1 net {}; 2 vm {}; 3 net {on: 1, size: 3}"},
		{"destroy web mid; gone web", "destroy web mid; gone web; gone mid; end", "alone base", "1 net {}; 2 vm {}"},
		{"deploy", "end", "alone base mid web", "1 net {}; 2 vm {}; 3 net {on: 1, size: 3}; 4 vm {net: 3}"}, // no names: nobody
		{"destroy", "end", "alone base mid web", "1 net {}; 2 vm {}; 3 net {on: 1, size: 3}; 4 vm {net: 3}"},
		{"deploy web", "deploy base mid web; commit base; commit mid; commit web; end", "alone base mid web", "1 net {}; 2 vm {}; 3 net {on: 1, size: 3}; 4 vm {net: 3}"},
	} {
		m, c := laid(t, four)
		l, err := walog.Open(m.D, "journal")
		good(t, err)
		ahead := strings.Join(l.Records(), "; ") + "; " + x.records + "; "
		for _, r := range strings.Split(x.records, "; ") {
			good(t, l.Add(r))
		}
		c = opened(t, m)
		if was, err := c.Resume(w); !was || err != nil {
			t.Errorf("%s: Resume = %v, %v", x.records, was, err)
		}
		is(t, x.records+": noted", noted(t, m), ahead+x.noted)
		is(t, x.records+": deployed", deployed(t, c), x.has)
		is(t, x.records+": things", things(t, m), x.things)
		is(t, x.records+": begun", begun(c), "")
		if was, err := c.Resume(w); was || err != nil {
			t.Errorf("%s: resumed again = %v, %v", x.records, was, err)
		}
	}
}

// M4: with an error it stays begun; that something was begun is told as well.
func TestResumeErrors(t *testing.T) {
	w := work(t, four)
	wrong := func(c *coord.Coord, w api.Work, want error, words string) {
		t.Helper()
		if was, err := c.Resume(w); !was || err != want {
			t.Errorf("Resume = %v, %v, want true, %v", was, err, want)
		}
		is(t, "begun", begun(c), words)
	}
	m := machine(t, 12)
	c := opened(t, m)
	m.C.Fail(1)
	if err := c.Deploy(w, names("web")); err != api.ErrBusy {
		t.Fatalf("Deploy = %v", err)
	}
	m.C.Fail(2)
	wrong(c, w, api.ErrBusy, "deploy base mid web/base")
	wrong(c, work(t, "stack base stack mid"), api.ErrNone, "deploy base mid web/base") // web is no more
	good(t, m.D.Write("lock.mid", "1"))
	wrong(c, w, api.ErrHeld, "deploy base mid web/base")
	good(t, m.D.Remove("lock.mid"))
	if was, err := c.Resume(w); !was || err != nil {
		t.Errorf("Resume = %v, %v", was, err)
	}
	is(t, "deployed", deployed(t, c), "base mid web")
	m = journal(t, "destroy base")
	c = opened(t, m)
	good(t, m.D.Write("lock.base", "1"))
	wrong(c, w, api.ErrHeld, "destroy base/")
	for _, words := range []string{"destroy base", "deploy base", "deploy", "destroy"} {
		m = journal(t, words)
		c = opened(t, m)
		fell(t, m.D)
		wrong(c, w, api.ErrDown, words+"/")
	}
}

// M4, M3: what is needed meanwhile is not destroyed by who resumes either.
func TestResumeNeeded(t *testing.T) {
	w := work(t, four)
	m, c := laid(t, four)
	good(t, c.Destroy(w, names("web")))
	m.C.Fail(m.C.Calls())
	if err := c.Destroy(w, names("mid")); err != api.ErrBusy {
		t.Fatalf("Destroy = %v", err)
	}
	is(t, "begun", begun(c), "destroy mid/")
	good(t, engineDeploy(t, m, w, 0))
	if was, err := c.Resume(w); !was || err != api.ErrNeeded {
		t.Errorf("Resume = %v, %v", was, err)
	}
	is(t, "deployed", deployed(t, c), "alone base mid web")
	is(t, "begun", begun(c), "destroy mid/")
}

// engineDeploy: one stack, without being noted; its outputs of others are any.
func engineDeploy(t *testing.T, m engine.Machine, w api.Work, i int) error {
	t.Helper()
	_, err := engine.Deploy(m, w.Stacks[i], w.Order[i], map[string]map[string]api.Value{"mid": {"id": read(t, "3")}})
	return err
}

// M2, W1: a work without stacks: it is begun, and at its end.
func TestNoStacks(t *testing.T) {
	m := machine(t, 12)
	c := opened(t, m)
	good(t, c.Deploy(api.Work{}, nil), c.Destroy(api.Work{}, nil))
	is(t, "noted", noted(t, m), "deploy; end; destroy; end")
	is(t, "begun", begun(c), "")
	m.D.Arm(2)
	if err := c.Deploy(api.Work{}, []string{}); err != api.ErrDown {
		t.Errorf("Deploy = %v", err)
	}
	m.D.Restart(0, 0)
	c = opened(t, m)
	is(t, "begun", begun(c), "deploy/")
	if was, err := c.Resume(work(t, four)); !was || err != nil {
		t.Errorf("Resume = %v, %v", was, err)
	}
	is(t, "begun", begun(c), "")
	is(t, "things", things(t, m), "")
}

// M2, W6: the lock of a stack that another one has, who is alive: it is not touched, nor is what comes behind.
func TestHeld(t *testing.T) {
	w := work(t, four)
	m, c := laid(t, four)
	m.C.Lose(1)
	m.C.Lose(3)
	for _, owner := range []string{"1", "3"} {
		good(t, m.D.Write("lock.mid", owner))
		ahead := saved(t, m, "mid") + saved(t, m, "web")
		if err := c.Deploy(w, nil); err != api.ErrHeld {
			t.Errorf("Deploy = %v", err)
		}
		is(t, "begun", begun(c), "deploy base alone mid web/base alone")
		is(t, "not touched", saved(t, m, "mid")+saved(t, m, "web"), ahead)
		is(t, "things", things(t, m), "2 vm {}; 4 vm {net: 3}; 5 net {}")
		is(t, "locks", locked(t, m), "mid="+owner)
		calls := m.C.Calls()
		good(t, c.Deploy(w, names("base alone"))) // who is not in need of it
		if m.C.Calls() != calls {
			t.Errorf("%d calls", m.C.Calls()-calls)
		}
	}
	good(t, m.D.Write("lock.web", "2"))
	if err := c.Destroy(w, nil); err != api.ErrHeld {
		t.Errorf("Destroy = %v", err)
	}
	is(t, "begun", begun(c), "destroy web mid alone base/")
	is(t, "things", things(t, m), "2 vm {}; 4 vm {net: 3}; 5 net {}")
	is(t, "locks", locked(t, m), "mid=3 web=2")
	// whose owner is not alive
	c, err := coord.Open(m, 1, but(3))
	good(t, err)
	if err := c.Deploy(w, nil); err != api.ErrHeld {
		t.Errorf("Deploy = %v", err)
	}
	is(t, "locks", locked(t, m), "web=2") // the one of mid was taken over, and given back
	c, err = coord.Open(m, 1, but(2))
	good(t, err, c.Deploy(w, nil))
	is(t, "locks", locked(t, m), "")
	is(t, "things", things(t, m), "2 vm {}; 4 vm {net: 6}; 5 net {}; 6 net {on: 5, size: 3}")
}

// M2: a lock that cannot be read; one that is its own; one that there is no room for.
func TestLocks(t *testing.T) {
	w := work(t, four)
	m := machine(t, 12)
	good(t, m.D.Write("lock.alone", "x"), m.D.Write("lock.base", "2"), m.D.Write("lock.web", "2"))
	c, err := coord.Open(m, 2, all)
	good(t, err)
	if err := c.Deploy(w, nil); err != api.ErrText {
		t.Errorf("Deploy = %v", err)
	}
	is(t, "begun", begun(c), "deploy base alone mid web/base")
	good(t, m.D.Remove("lock.alone"))
	is(t, "locks", locked(t, m), "web=2") // it was its own ahead, and given back; that of web was not come to
	good(t, c.Deploy(w, nil))
	is(t, "locks", locked(t, m), "")
	m = machine(t, 12)
	for i := range api.MaxFiles - 1 {
		good(t, m.D.Write("f"+strconv.Itoa(i), ""))
	}
	c = opened(t, m)
	if err := c.Deploy(w, nil); err != api.ErrMany {
		t.Errorf("Deploy = %v", err)
	}
	is(t, "begun", begun(c), "deploy base alone mid web/")
	good(t, m.D.Remove("journal"), m.D.Write("f", ""))
	c = opened(t, m)
	refusal(t, m, "Deploy", func() error { return c.Deploy(w, nil) }, api.ErrMany)
	is(t, "begun", begun(c), "")
}

// M2: of several locks that are wrong on a disk that is nearly full: each is told of when it is taken, and not given back by who does not have it.
func TestLocksOnAFullDisk(t *testing.T) {
	m, c := laid(t, four)
	good(t, m.D.Write("lock.web", "x"), m.D.Write("draft", "left by a fall"))
	l, err := m.D.List()
	good(t, err)
	for i := range api.MaxFiles - 1 - len(l) {
		good(t, m.D.Write("f"+strconv.Itoa(i), ""))
	}
	if err := c.Deploy(work(t, four), nil); err != api.ErrText {
		t.Errorf("Deploy = %v", err)
	}
	is(t, "begun", begun(c), "deploy base alone mid web/base alone mid")
	good(t, m.D.Write("lock.web", "1"))
	if err := c.Deploy(work(t, four), nil); err != api.ErrHeld {
		t.Errorf("Deploy = %v", err)
	}
	is(t, "locks", locked(t, m), "web=1")
}

// Z3: of two errors the first one is told: what the cloud refused, also if the machine falls while the lock is given back.
func TestFirstError(t *testing.T) {
	w := work(t, four)
	const called = 2 + 2 + 3 + 1 // what is begun is noted; the lock; what is about to be done is saved; the call
	for steps := range called + 3 + 2 {
		m := machine(t, 12)
		c := opened(t, m)
		m.C.Fail(0)
		m.D.Arm(steps)
		want := api.ErrDown
		if steps >= called {
			want = api.ErrBusy
		}
		if err := c.Deploy(w, nil); err != want || !m.D.Down() {
			t.Errorf("Deploy with %d steps left = %v, want %v; down: %v", steps, err, want, m.D.Down())
		}
		m.D.Restart(0, 0)
		c = opened(t, m)
		if steps < called { // the call that fails is yet to come
			if err := c.Deploy(w, nil); err != api.ErrBusy {
				t.Errorf("Deploy = %v", err)
			}
		}
		good(t, c.Deploy(w, nil))
		is(t, "things", things(t, m), "1 net {}; 2 vm {}; 3 net {on: 1, size: 3}; 4 vm {net: 3}")
		is(t, "locks", locked(t, m), "")
	}
}

// moment: what is there behind so many steps of a deed.
type moment struct {
	files, records []string
	locks          string
}

// M2, M3: what is done with a stack is done under its lock, behind what is begun and ahead of what is noted of it; one lock at a time.
func TestUnderTheLock(t *testing.T) {
	w := work(t, four)
	for what, do := range map[string]func(*coord.Coord) error{
		"Deploy":  func(c *coord.Coord) error { return c.Deploy(w, nil) },
		"Destroy": func(c *coord.Coord) error { return c.Destroy(w, nil) },
	} {
		var l []moment
		for end := false; !end; {
			m := machine(t, 12)
			first, err := coord.Open(m, 2, all)
			good(t, err)
			if what == "Destroy" {
				good(t, first.Deploy(w, nil))
			}
			ahead := strings.Count(noted(t, m), ";")
			m.D.Arm(len(l))
			if err = do(first); err != nil && err != api.ErrDown {
				t.Fatalf("%s = %v", what, err)
			}
			end = err == nil
			m.D.Restart(1000, 0) // all is as it was when it fell
			records := strings.Split(noted(t, m), "; ")
			if what == "Destroy" {
				records = records[ahead+1:]
			}
			now := moment{files: stateFiles(t, m), records: records, locks: locked(t, m)}
			if len(l) > 0 {
				passes(t, what+", step "+strconv.Itoa(len(l)), l[len(l)-1], now)
			}
			l = append(l, now)
		}
		if n := len(l); n < 60 || len(l[n-1].records) != 6 || l[n-1].locks != "" {
			t.Errorf("%s: %d steps, behind them %v", what, n, l[n-1])
		}
	}
}

// stateFiles with their bytes.
func stateFiles(t *testing.T, m engine.Machine) []string {
	t.Helper()
	return slices.DeleteFunc(files(t, m), func(s string) bool { return !strings.HasPrefix(s, "state.") })
}

// passes: from one moment to the next one: what changed may change then.
func passes(t *testing.T, what string, a, b moment) {
	t.Helper()
	if strings.Contains(b.locks, " ") {
		t.Errorf("%s: locks %s", what, b.locks)
	}
	if a.locks != "" && b.locks != "" && a.locks != b.locks {
		t.Errorf("%s: from the lock %s to %s", what, a.locks, b.locks)
	}
	if len(b.records) == 0 && b.locks != "" {
		t.Errorf("%s: the lock %s is taken ahead of what is noted", what, b.locks)
	}
	for _, s := range b.files {
		name, _, _ := strings.Cut(strings.TrimPrefix(s, "state."), ":")
		if !slices.Contains(a.files, s) && (a.locks != name+"=2" || b.locks != name+"=2") {
			t.Errorf("%s: the state of %s is saved; locks %q", what, name, b.locks)
		}
	}
	if len(b.records) == len(a.records) {
		return
	}
	word, name, _ := strings.Cut(b.records[len(b.records)-1], " ")
	switch {
	case (word == "commit" || word == "gone") && (a.locks != name+"=2" || b.locks != name+"=2"):
		t.Errorf("%s: %s %s is noted; locks %q", what, word, name, b.locks)
	case word == "end" && b.locks != "":
		t.Errorf("%s: the end; locks %q", what, b.locks)
	}
}

// great: MaxStacks stacks with the longest names.
func great(t *testing.T) api.Work {
	var s string
	for i := range api.MaxStacks {
		s += " stack abcdefghijk" + strconv.Itoa(i) + " output o = 1"
	}
	return work(t, s)
}

// M2: however full the journal is, there is room for a deed; it is cleared only if there is little.
func TestJournalsRoom(t *testing.T) {
	w := great(t)
	for ahead := 0; ahead <= api.MaxData; ahead++ {
		if ahead > 700 && ahead < 3300 && ahead%100 > 0 {
			continue
		}
		var records []string
		for left := ahead; left >= 6; left -= min(left, 406) {
			records = append(records, strings.Repeat("x", min(left, 406)-6))
		}
		m := journal(t, records...)
		c := opened(t, m)
		good(t, c.Deploy(w, nil), c.Destroy(w, nil))
		is(t, "begun", begun(c), "")
		l := strings.Split(noted(t, m), "; ")
		if n := len(l); n < 10 || !strings.HasPrefix(l[n-10], "destroy ") || l[n-1] != "end" {
			t.Fatalf("%d bytes: noted %q", ahead, l)
		}
		if n := len(l); ahead < api.MaxData/2 && n != len(records)+20 {
			t.Fatalf("%d bytes: %d records, there were %d", ahead, n, len(records))
		}
	}
}

// M2: deeds without end.
func TestManyDeeds(t *testing.T) {
	w := great(t)
	m := machine(t, 12)
	c := opened(t, m)
	cleared, size := 0, 0
	for i := range 200 {
		if i%2 == 0 {
			good(t, c.Deploy(w, nil))
		} else {
			good(t, c.Destroy(w, nil))
		}
		is(t, "begun", begun(c), "")
		data, err := m.D.Read("journal")
		good(t, err)
		if len(data) < size {
			cleared++
		}
		size = len(data)
		if i%7 == 0 {
			m.D.Restart(0, 0)
			c = opened(t, m)
		}
	}
	if cleared < 10 {
		t.Errorf("cleared %d times", cleared)
	}
}

// M4: `end` has room, too: what was begun without names can be brought to its end.
func TestRoomOfTheEnd(t *testing.T) {
	records := slices.Repeat([]string{strings.Repeat("x", 394)}, 9)
	for left := 370; left <= 388; left++ {
		m := journal(t, append(slices.Clone(records), strings.Repeat("x", left-6), "deploy")...)
		c := opened(t, m)
		is(t, "begun", begun(c), "deploy/")
		if was, err := c.Resume(work(t, four)); !was || err != nil {
			t.Errorf("Resume = %v, %v", was, err)
		}
		is(t, "begun", begun(opened(t, m)), "")
	}
}
