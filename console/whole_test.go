package console_test

import (
	"slices"
	"strconv"
	"strings"
	"testing"

	"wavewright/api"
	"wavewright/console"
	"wavewright/value"
)

// dice: numbers that look drawn, the same each time.
type dice uint64

func (d *dice) below(n int) int {
	*d = *d*6364136223846793005 + 1442695040888963407
	return int(uint64(*d>>33) % uint64(n))
}

// of these texts one.
func (d *dice) one(l ...string) string { return l[d.below(len(l))] }

// some of these texts, or none.
func (d *dice) some(l []string) []string {
	return slices.DeleteFunc(slices.Clone(l), func(string) bool { return d.below(3) > 0 })
}

// stack that was drawn: its text, and what this denotes.
type stack struct {
	text  string
	has   []string // what things it is to have, without their numbers
	out   int
	needs []string
}

// works have three stacks; each may need those ahead.
func threeNames() []string { return []string{"c", "a", "b"} }

// part: an expression, and what it is: with the input i, the resources of its own stack that are known, and the stacks ahead.
func (d *dice) part(i int, own map[string]int, all map[string]*stack, s *stack) (string, int) {
	n := d.below(3)
	switch d.below(5) {
	case 0:
		return "(in.i + " + strconv.Itoa(n) + ")", i + n
	case 1:
		for _, name := range []string{"x", "y", "z"} {
			if v, is := own[name]; is && d.below(2) == 0 {
				return "res." + name + ".v", v
			}
		}
	case 2, 3:
		for _, name := range threeNames() {
			if all[name] != nil && d.below(2) == 0 {
				s.needs = append(s.needs, name)
				return "((in.i == 9) ? 0 : stack." + name + ".o)", all[name].out
			}
		}
	}
	return strconv.Itoa(n), n
}

func (d *dice) stack(name string, all map[string]*stack) *stack {
	i, own, s := d.below(3), map[string]int{}, &stack{}
	s.text = "stack " + name + " input i = " + strconv.Itoa(i)
	for _, r := range []string{"y", "x", "z"} {
		if d.below(3) > 0 {
			e, v := d.part(i, own, all, s)
			kind := d.one("vm", "vm", "disk")
			s.text += " resource " + kind + " " + r + " { v: " + e + " }"
			s.has = append(s.has, kind+" {v: "+strconv.Itoa(v)+"}")
			own[r] = v
		}
	}
	e, v := d.part(i, own, all, s)
	s.text, s.out = s.text+" output o = "+e, v
	return s
}

func (d *dice) work() map[string]*stack {
	all := map[string]*stack{}
	for _, name := range threeNames() {
		all[name] = d.stack(name, all)
	}
	return all
}

// under: these, and those that they need, however far; none: all.
func under(all map[string]*stack, l []string) []string {
	if len(l) == 0 {
		return threeNames()
	}
	l = slices.Clone(l)
	for k := 0; k < len(l); k++ {
		for _, n := range all[l[k]].needs {
			if !slices.Contains(l, n) {
				l = append(l, n)
			}
		}
	}
	return l
}

// world as it is to be: what things each stack has that was deployed.
type world map[string][]string

func (w world) stacks() string {
	if len(w) == 0 {
		return "-"
	}
	var l []string
	for name := range w {
		l = append(l, name)
	}
	slices.Sort(l)
	return strings.Join(l, " ")
}

func (w world) things() string {
	var l []string
	for _, has := range w {
		l = append(l, has...)
	}
	slices.Sort(l)
	return strings.Join(l, "; ")
}

// sorted: an answer to things, without their numbers. Are these rising?
func sorted(t *testing.T, answer string) string {
	t.Helper()
	if answer == "-" {
		return ""
	}
	was := 0
	var l []string
	for s := range strings.SplitSeq(answer, "; ") {
		id, rest, _ := strings.Cut(s, " ")
		n, err := strconv.Atoi(id)
		if err != nil || n <= was {
			t.Fatalf("things: %s", answer)
		}
		was, l = n, append(l, rest)
	}
	slices.Sort(l)
	return strings.Join(l, "; ")
}

// lines of a session, and what is wanted of the answers.
type script struct {
	lines []string
	want  []func(*testing.T, string)
}

func (s *script) any(line string) { s.that(line, func(*testing.T, string) {}) }

func (s *script) that(line string, want func(*testing.T, string)) {
	s.lines, s.want = append(s.lines, line), append(s.want, want)
}

func (s *script) line(line, want string) {
	s.that(line, func(t *testing.T, got string) {
		t.Helper()
		if got != want {
			t.Errorf("%s => %s, want %s", line, got, want)
		}
	})
}

func (s *script) things(w world) {
	want := w.things() // as it is now
	s.that("things", func(t *testing.T, got string) {
		t.Helper()
		if sorted(t, got) != want {
			t.Errorf("things => %s, want %s", got, want)
		}
	})
}

func (s *script) run(t *testing.T) {
	t.Helper()
	for i, answer := range run(t, s.lines...) {
		s.want[i](t, answer)
	}
	if t.Failed() {
		t.Fatalf("%q", s.lines)
	}
}

// deed on stacks that are named.
func deed(word string, names []string) string {
	return strings.Join(append([]string{word}, names...), " ")
}

func (s *script) write(all map[string]*stack) {
	s.line("new", "ok")
	for _, name := range []string{"a", "b", "c"} { // in another order than they need each other
		s.line("add "+all[name].text, "ok")
	}
}

// deploys, and asks whether all is as it is to be: a plan has nothing, and deployed again, no call is made.
func (s *script) deploys(w world, all map[string]*stack, targets []string) {
	l := under(all, targets)
	for _, name := range l {
		w[name] = all[name].has
	}
	s.line(deed("deploy", targets), "ok")
	s.things(w)
	for _, name := range l {
		s.line("plan "+name, "-")
	}
	calls := ""
	s.that("calls", func(_ *testing.T, got string) { calls = got })
	s.line(deed("deploy", targets), "ok")
	s.that("calls", func(t *testing.T, got string) {
		if got != calls {
			t.Errorf("deployed again: %s calls, were %s", got, calls)
		}
	})
}

func (s *script) destroys(w world, all map[string]*stack, targets []string) {
	want := "ok"
	for name := range w {
		needs := slices.ContainsFunc(under(all, []string{name}), func(n string) bool { return slices.Contains(targets, n) })
		if len(targets) > 0 && !slices.Contains(targets, name) && needs {
			want = "error 16"
		}
	}
	s.line(deed("destroy", targets), want)
	if want == "ok" {
		for _, name := range threeNames() {
			if len(targets) == 0 || slices.Contains(targets, name) {
				delete(w, name)
			}
		}
	}
	s.things(w)
}

// W1, W2, W4: from any stacks to any other ones: what is deployed is what the text says.
func TestDenoted(t *testing.T) {
	die := dice(3)
	for range 400 {
		s, w := &script{}, world{}
		for range 4 {
			all := die.work()
			s.write(all)
			if die.below(3) == 0 {
				s.destroys(w, all, die.some(threeNames()))
			} else {
				s.deploys(w, all, die.some(threeNames()))
			}
			s.line("stacks", w.stacks())
		}
		s.run(t)
	}
}

// W5: what others took away or changed, and what the cloud refused once, is as it is to be behind the next deed.
func TestMended(t *testing.T) {
	die := dice(5)
	for range 300 {
		s, w := &script{}, world{}
		for range 3 {
			all := die.work()
			s.write(all)
			if n := die.below(8); n > 0 {
				s.any("fail " + strconv.Itoa(n-1))
				s.that("deploy", func(t *testing.T, got string) {
					if got != "ok" && got != "error 12" {
						t.Errorf("deploy => %s", got)
					}
				})
				s.any("fail -1")
			}
			for range die.below(4) {
				id := strconv.Itoa(1 + die.below(9))
				s.line(die.one("lose "+id, "spoil "+id+" {v: 7}", "spoil "+id+" {}"), "ok")
			}
			s.any("deploy") // the call that was to fail may still be to come
			s.any("resume")
			s.deploys(w, all, nil)
		}
		s.run(t)
	}
}

// W5: no more things are there than there is room for; when there is, all is as it is to be.
func TestRoom(t *testing.T) {
	var lines []string
	for name, many := range map[string]int{"a": 8, "b": 5} {
		text := "add stack " + name
		for i := range many {
			text += " resource vm r" + strconv.Itoa(i) + " { }"
		}
		lines = append(lines, text)
	}
	slices.Sort(lines)
	l := run(t, append(lines, "deploy", "things", "state b", "stacks", "deploy", "calls", "lose 3", "deploy b", "deploy", "lose 12", "lose 5", "deploy", "things", "destroy a", "deploy b", "things", "deploy", "calls")...)
	l = l[len(lines):]
	many := func(s string) int { return strings.Count(s, "vm {}") }
	if l[0] != "error 13" || many(l[1]) != 12 || l[2] != "4; vm r0 9 {}; vm r1 10 {}; vm r2 11 {}; vm r3 12 {}" || l[3] != "a b" || l[4] != "error 13" || l[5] != "14" {
		t.Errorf("no room for one of 13: %q", l[:6])
	}
	// what was lost made room for the one that was missing, and then was missing itself
	if l[7] != "ok" || l[8] != "error 13" || l[11] != "error 13" || many(l[12]) != 12 {
		t.Errorf("room for 12 of 13: %q", l[6:13])
	}
	if l[13] != "ok" || l[14] != "ok" || many(l[15]) != 5 || l[16] != "error 13" {
		t.Errorf("room for one of two: %q", l[13:])
	}
}

// W6: a stack whose lock somebody else has is not touched; those ahead of it are.
func TestNotTouched(t *testing.T) {
	die := dice(7)
	for range 200 {
		s := &script{}
		first, second := die.work(), die.work()
		s.write(first)
		s.deploys(world{}, first, nil)
		held := die.one(threeNames()...)
		s.line("steal "+held, "ok")
		ahead := ""
		s.that("state "+held, func(_ *testing.T, got string) { ahead = got })
		s.write(second)
		for _, word := range []string{"deploy", "destroy", "resume", "deploy " + held, "resume"} {
			s.line(word, "error 14")
			s.that("state "+held, func(t *testing.T, got string) {
				if got != ahead {
					t.Errorf("%s has %s, had %s", held, got, ahead)
				}
			})
		}
		s.line("yield "+held, "ok")
		s.deploys(world{}, second, nil)
		s.run(t)
	}
}

// W3: behind a fall at any step, with anything kept, the same deed done again, or resumed, leaves all as without a fall; no lock is left, and nothing is begun any more.
func TestFalls(t *testing.T) {
	four := []string{
		"add stack web resource vm one { net: stack.mid.id } output o = res.one.id",
		"add stack mid resource net in { on: stack.base.id } output id = res.in.id",
		"add stack base resource net main { } output id = res.main.id",
		"add stack alone resource vm x { }",
	}
	other := []string{
		"add stack base resource box main { } resource net more { v: 1 } output id = res.main.id",
		"add stack web resource vm one { net: stack.base.id } resource disk two { on: res.one.id }",
		"add stack alone resource vm y { on: stack.base.id } output o = res.y.id",
		"add stack mid resource net in { on: stack.alone.o } output id = res.in.id",
	}
	asked := []string{"things", "state web", "state mid", "state base", "state alone", "stacks", "resume"}
	fall := func(what string, ahead []string, do string) {
		want := run(t, slices.Concat(ahead, []string{do}, asked)...)[len(ahead):]
		if want[0] != "ok" {
			t.Fatalf("%s: %q", what, want)
		}
		for n := 0; ; n++ {
			fallen := false
			for _, kept := range []string{"0 0", "0 1", "0 30", "1 0", "1 1", "2 99999", "3 0", "99999 0"} {
				for _, again := range []string{"calls", "resume"} {
					lines := slices.Concat(ahead, []string{"arm " + strconv.Itoa(n), do, "restart " + kept, again, do}, asked)
					l := run(t, lines...)[len(ahead):]
					fallen = l[1] != "ok"
					if fallen && l[1] != "error 10" || l[2] != "ok" || again == "resume" && l[3] != "true" && l[3] != "false" || !slices.Equal(l[4:], want) {
						t.Fatalf("%s, arm %d, restart %s, %s: %q, want %q", what, n, kept, again, l, want)
					}
					// locks that are left would be somebody's
					if l := run(t, append(lines, "steal web mid base alone")...); l[len(l)-1] != "ok" {
						t.Fatalf("%s, arm %d, restart %s: steal => %s", what, n, kept, l[len(l)-1])
					}
				}
			}
			if !fallen {
				return
			}
		}
	}
	fall("from nothing", four, "deploy")
	fall("web alone", four, "deploy web")
	fall("from four to others", slices.Concat(four, []string{"deploy", "new"}, other), "deploy")
	fall("from others, lost, to four", slices.Concat(other, []string{"deploy", "lose 2", "spoil 1 {}", "new"}, four), "deploy")
	fall("four destroyed", slices.Concat(four, []string{"deploy"}), "destroy")
	fall("two destroyed", slices.Concat(four, []string{"deploy"}), "destroy mid web")
}

// value: the text of one that is drawn.
func (d *dice) value(deep int) string {
	switch k := d.below(9); {
	case k == 0:
		return d.one("null", "true", "false")
	case k < 4 || deep > 3:
		return d.one("0", "7", "-1", "1000000000", "-1000000000")
	case k < 6:
		b := make([]byte, d.below(6))
		for i := range b {
			b[i] = byte(d.below(256))
		}
		return value.Quote(string(b))
	case k == 6:
		return "[" + d.one("", d.value(deep+1), d.value(deep+1)+", "+d.value(deep+1)) + "]"
	}
	return d.record(deep)
}

func (d *dice) record(deep int) string {
	return "{" + d.one("", "b: "+d.value(deep+1), "a: "+d.value(deep+1)+", c9: "+d.value(deep+1)) + "}"
}

// W7: what is written is read: values, stacks and states, also by a machine that began anew.
func TestWrittenIsRead(t *testing.T) {
	die := dice(11)
	for range 500 {
		rec, v := die.record(1), die.value(1)
		if len(rec) > 100 || len(v) > 100 {
			continue
		}
		has := "1; vm x 1 {r: " + rec + "}; o = " + v
		lines := []string{"eval " + v, "eval " + rec, "add stack a resource vm x { r: " + rec + " } output o = " + v, "plan a", "deploy", "state a", "restart 0 0", "state a", "plan a", "things", "spoil 1 " + rec, "things"}
		want := []string{v, rec, "ok", "create vm x 0 {r: " + rec + "}", "ok", has, "ok", has, "-", "1 vm {r: " + rec + "}", "ok", "1 vm " + rec}
		if got := run(t, lines...); !slices.Equal(got, want) {
			t.Errorf("%q\n%q, want\n%q", lines, got, want)
		}
	}
}

// fits: may it be an answer to some line?
func fits(answer string) bool {
	if answer == "" {
		return false
	}
	rest, is := strings.CutPrefix(answer, "error ")
	if !is {
		return true
	}
	number, at, is := strings.Cut(rest, " at ")
	n, err := strconv.Atoi(number)
	if is {
		k, err := strconv.Atoi(at)
		is = err == nil && 0 <= k && k <= api.MaxLine
	} else {
		is = true
	}
	return is && err == nil && int(api.ErrBound) <= n && n <= int(api.ErrNeeded)
}

// wordsOfLines: of which lines are made, wrong ones, too.
func wordsOfLines() []string {
	return []string{
		"new", "add", "check", "deploy", "destroy", "resume", "plan", "state", "stacks", "things", "calls", "eval", "spoil", "lose", "fail", "steal", "yield", "arm", "restart",
		"a", "b", "web", "abcdefghijklm", "stack", "input", "resource", "output", "vm", "x", "=", "{", "}", "[", "]", "(", ")", ":", ",", ".", "+", "?", "==", "-", "#",
		"0", "1", "2", "-1", "5", "99999", "100000", "01", "\"t\"", "\"", "null", "true", "in.a", "res.x.id", "stack.a.o", "get", "", " ", "\n", "\x00", "\xff", "{}", "stack a",
		"stack a resource vm x { } output o = res.x.id", "stack b resource vm x { a: stack.a.o }", "{a: 1}",
	}
}

// Z1, Z2, N2: whatever the lines are, also behind arm, each is answered, and answered the same each time; they stay as they are.
func TestAnyLines(t *testing.T) {
	die := dice(17)
	words := wordsOfLines()
	verbs := words[:19]
	for range 3000 {
		lines := make([]string, 1+die.below(api.MaxLines), api.MaxLines+9)
		for i := range lines {
			var l []string
			if die.below(8) > 0 {
				l = append(l, die.one(verbs...))
			}
			for range die.below(3) * die.below(4) {
				l = append(l, die.one(words...))
			}
			lines[i] = strings.Join(l, " ")
		}
		was := slices.Clone(lines)
		answers := run(t, lines...)
		if again := run(t, was...); !slices.Equal(lines, was) || !slices.Equal(answers, again) {
			t.Fatalf("%q: %q, then %q: %q", was, answers, lines, again)
		}
		for i, answer := range answers {
			if !fits(answer) {
				t.Fatalf("%q => %q", lines[i], answer)
			}
		}
	}
}

// Z2: what comes out is the caller's, and nothing is kept from one session to the next.
func TestOwnMemory(t *testing.T) {
	lines := []string{"add stack a resource vm x { }", "deploy", "things", "steal a", "eval 1"}
	want := run(t, lines...)
	got := run(t, lines...)
	for i := range got {
		got[i] = "mine"
	}
	_ = append(got[:1], "mine")
	if again := run(t, lines...); !slices.Equal(again, want) || lines[2] != "things" {
		t.Errorf("%q, want %q", again, want)
	}
	if l := run(t, "things", "calls", "state a", "check", "deploy a"); !slices.Equal(l, []string{"-", "0", "0", "ok", "error 7"}) {
		t.Errorf("a new session: %q", l)
	}
	// what stands behind the list is not read
	if l := run(t, append(lines, "lose 1")[:3:5]...); l[2] != "1 vm {}" {
		t.Errorf("%q", l)
	}
}

// Z1, N1, N2
func FuzzRun(f *testing.F) {
	f.Add("add stack a resource vm x { }\ndeploy\narm 3\ndestroy\nrestart 1 2\nresume\nthings")
	f.Add("eval (1 +\nspoil 1 {a: 1}\nlose 1\nfail 0\nsteal a b\nyield a\nstate a\nplan a\nstacks\ncalls\ncheck\nnew")
	f.Fuzz(func(t *testing.T, s string) {
		lines := strings.Split(s, "\n")
		answers, err := console.Run(lines)
		if len(lines) > api.MaxLines {
			if len(answers) > 0 || err != error(api.ErrMany) {
				t.Fatalf("%d lines: %q, %v", len(lines), answers, err)
			}
			return
		}
		if err != nil || len(answers) != len(lines) {
			t.Fatalf("%d lines: %d answers, %v", len(lines), len(answers), err)
		}
		for i, answer := range answers {
			if !fits(answer) || len(lines[i]) > api.MaxLine && answer != "error 5" {
				t.Fatalf("%q => %q", lines[i], answer)
			}
		}
	})
}
