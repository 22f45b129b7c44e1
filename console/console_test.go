package console_test

import (
	"fmt"
	"slices"
	"strconv"
	"strings"
	"testing"

	"wavewright/api"
	"wavewright/console"
)

// run lines that may be: an answer to each.
func run(t *testing.T, lines ...string) []string {
	t.Helper()
	answers, err := console.Run(lines)
	if err != nil || len(answers) != len(lines) {
		t.Fatalf("Run of %d lines: %d answers, %v", len(lines), len(answers), err)
	}
	return answers
}

// last answer to lines.
func last(t *testing.T, lines ...string) string {
	t.Helper()
	return run(t, lines...)[len(lines)-1]
}

// told: is a session answered so? Its lines stand each with ' => ' and the answer behind it.
func told(t *testing.T, session string) {
	t.Helper()
	var lines, want []string
	for s := range strings.SplitSeq(strings.Trim(session, "\n"), "\n") {
		line, answer, is := strings.Cut(s, " => ")
		if !is {
			t.Fatalf("no answer is wanted to %q", s)
		}
		lines, want = append(lines, line), append(want, answer)
	}
	for i, answer := range run(t, lines...) {
		if answer != want[i] {
			t.Errorf("line %d: %s => %s, want %s", i, lines[i], answer, want[i])
		}
	}
}

// N1, N2: the document's session.
func TestExample(t *testing.T) {
	told(t, `
add stack base => ok
add input size = 3 => ok
add resource net main { size: in.size } => ok
add output id = res.main.id => ok
add stack web => ok
add resource vm one { net: stack.base.id, size: (1 + 2) } => ok
add resource disk two { on: res.one.id } => ok
add output big = (res.one.size == 3) => ok
check => ok
plan web => error 7
deploy => ok
things => 1 net {size: 3}; 2 vm {net: 1, size: 3}; 3 disk {on: 2}
state web => 2; vm one 2 {net: 1, size: 3}; disk two 3 {on: 2}; big = true
calls => 3
deploy => ok
calls => 3
plan web => -
new => ok
add stack base input size = 4 resource net main { size: in.size } output id = res.main.id => ok
add stack web resource box one { net: stack.base.id } => ok
plan web => delete vm one 2 {net: 1, size: 3}; create box one 0 {net: 1}; delete disk two 3 {on: 2}
fail 1 => ok
deploy => error 12
state web => 2; vm one 2 {net: 1, size: 3}; disk two 3 {on: 2}; big = true
resume => true
things => 1 net {size: 4}; 4 box {net: 1}
lose 1 => ok
deploy web => ok
things => 4 box {net: 5}; 5 net {size: 4}
destroy base => error 16
destroy => ok
things => -
stacks => -
state base => 4
eval get {a: [1, "x"], b: -5} b => -5
eval (1 + "x") => error 9
eval (1 + => error 5 at 4
steal web => ok
deploy => error 14
yield web => ok
deploy web => ok
things => 6 net {size: 4}; 7 box {net: 6}
deploy none => error 7
add resource => ok
check => error 5
new => ok
add stack a output o = stack.b.o stack b output o = stack.a.o => ok
check => error 8
fly => error 5
`)
}

// N1: how many lines there may be.
func TestManyLines(t *testing.T) {
	for _, n := range []int{0, 1, api.MaxLines - 1, api.MaxLines} {
		lines := slices.Repeat([]string{"calls"}, n)
		if answers, err := console.Run(lines); err != nil || !slices.Equal(answers, slices.Repeat([]string{"0"}, n)) {
			t.Errorf("Run of %d lines = %q, %v", n, answers, err)
		}
	}
	for _, n := range []int{api.MaxLines + 1, 5000} {
		if answers, err := console.Run(slices.Repeat([]string{"calls"}, n)); len(answers) != 0 || err != error(api.ErrMany) {
			t.Errorf("Run of %d lines = %q, %v", n, answers, err)
		}
	}
	if answers, err := console.Run(nil); len(answers) != 0 || err != nil {
		t.Errorf("Run(nil) = %q, %v", answers, err)
	}
}

// N1: a session begins with nothing.
func TestBegins(t *testing.T) {
	told(t, `
check => ok
deploy => ok
destroy => ok
resume => false
plan a => error 7
deploy a => error 7
destroy a => error 7
state a => 0
stacks => -
things => -
calls => 0
yield a => ok
restart 0 0 => ok`)
}

// N1: new, add and check.
func TestWorkspace(t *testing.T) {
	told(t, `
add stack a => ok
add resource vm x { => ok
check => error 5
add size: 3 # a remark, up to the end of the line => ok
add } output o = res.x.size => ok
check => ok
deploy => ok
things => 1 vm {size: 3}
add stack a => ok
check => error 6
deploy => error 6
new => ok
check => ok
things => 1 vm {size: 3}
stacks => a
add stack b output o = stack.a.o => ok
check => error 7
add stack a output o = 1 => ok
check => ok
new => ok
add  stack   b    => ok
plan b => -`)
}

// N1: a text may be empty; what is added is a line of its own.
func TestAddNothing(t *testing.T) {
	for _, line := range []string{"add", "add ", "add  ", "add #", "add \n", "add \n\n#\n"} {
		if l := run(t, "add stack a", line, "add resource vm", line, "add x { }", line, "deploy", "things"); l[1] != "ok" || l[7] != "1 vm {}" {
			t.Errorf("%q: %q", line, l)
		}
	}
	told(t, `
add stack a resource v => ok
add m x { } => ok
check => error 5`)
	// a newline in what is added is one
	if got := last(t, "add stack a # b\nresource vm x { }", "plan a"); got != "create vm x 0 {}" {
		t.Errorf("plan = %s", got)
	}
}

// N1: the workspace has room for MaxWork bytes, ends of lines counted.
func TestFullWorkspace(t *testing.T) {
	fill := func(bytes int) []string { // lines that make the workspace so long
		var l []string
		for bytes > 0 {
			n := min(bytes, 250)
			l = append(l, "add "+strings.Repeat("#", n-1))
			bytes -= n
		}
		return l
	}
	for bytes, want := range map[int]string{api.MaxWork - 7: "ok", api.MaxWork - 8: "ok", api.MaxWork - 6: "error 2", api.MaxWork: "error 2"} {
		l := run(t, append(fill(bytes), "add 123456", "new", "add stack a", "check")...)
		for _, answer := range l[:len(l)-4] {
			if answer != "ok" {
				t.Fatalf("%d bytes: %q", bytes, l)
			}
		}
		if got := l[len(l)-4]; got != want {
			t.Errorf("7 bytes more than %d: %s, want %s", bytes, got, want)
		}
		if got := l[len(l)-1]; got != "ok" {
			t.Errorf("behind new: %s", got)
		}
	}
	// what is too much is not added, and what fits is
	l := run(t, append(fill(api.MaxWork-8), "add stack ab", "check", "add stack a", "check", "deploy", "add", "plan a", "add x", "plan ab")...)
	if got := strings.Join(l[len(l)-9:], ", "); got != "error 2, ok, ok, ok, ok, error 2, -, error 2, error 7" {
		t.Errorf("a workspace that is nearly full: %s", got)
	}
}

// web needs base; alone needs nobody.
const three = `add stack web resource vm one { net: stack.base.id } output o = res.one.net => ok
add stack base resource net main { size: 3 } output id = res.main.id => ok
add stack alone resource vm x { } => ok
`

// N1: deploy, destroy, stacks: who is named.
func TestNames(t *testing.T) {
	told(t, three+`
deploy web => ok
stacks => base web
things => 1 net {size: 3}; 2 vm {net: 1}
deploy alone base alone => ok
stacks => alone base web
destroy base => error 16
destroy base alone => error 16
destroy alone => ok
destroy web base web => ok
stacks => -
things => -
calls => 6
deploy => ok
stacks => alone base web
things => 4 net {size: 3}; 5 vm {}; 6 vm {net: 4}
destroy => ok
things => -`[1:])
	told(t, three+`
deploy web none => error 7
destroy none => error 7
deploy Web => error 7
deploy web! => error 7
destroy 1 => error 7
plan WEB => error 7
things => -
calls => 0`[1:])
}

// N1: plan: what will be done.
func TestPlan(t *testing.T) {
	told(t, three+`
plan web => error 7
plan base => create net main 0 {size: 3}
plan alone => create vm x 0 {}
deploy => ok
plan web => -
lose 1 => ok
spoil 3 {net: 7, z: [null, "x"]} => ok
plan base => create net main 0 {size: 3}
plan web => update vm one 3 {net: 1}
new => ok
add stack web resource box one { a: "b c" } resource disk two { on: res.one.id } => ok
plan web => delete vm one 3 {net: 7, z: [null, "x"]}; create box one 0 {a: "b c"}; create disk two 0 {on: 0}
new => ok
add stack web => ok
plan web => delete vm one 3 {net: 7, z: [null, "x"]}
calls => 3
deploy => ok
plan web => -`[1:])
}

// N1: state: the serial, what is held, what comes out; also of stacks that the workspace knows nothing of.
func TestState(t *testing.T) {
	told(t, `
add stack a resource vm y { b: 2, c: "x; y" } resource net x { } output q = [1, null] output o = {a: true} => ok
state a => 0
deploy => ok
state a => 2; net x 2 {}; vm y 1 {b: 2, c: "x; y"}; o = {a: true}; q = [1, null]
new => ok
state a => 2; net x 2 {}; vm y 1 {b: 2, c: "x; y"}; o = {a: true}; q = [1, null]
add ( => ok
state a => 2; net x 2 {}; vm y 1 {b: 2, c: "x; y"}; o = {a: true}; q = [1, null]
state abcdefghijk9 => 0
state b => 0
state A => error 3
state 1 => error 3
state abcdefghijklm => error 3
state state.a => error 3
new => ok
add stack a output o = -5 => ok
deploy => ok
state a => 4; o = -5
destroy => ok
state a => 4`)
}

// N1, W3: state: what is about to be done is told as a change; what was begun is resumed. (Behind arm nothing is said of answers here: the other chapters say it.)
func TestStateOfAFall(t *testing.T) {
	for _, x := range []struct{ from, to, want string }{
		{"", "stack a resource vm x { b: 2 }", "0; create vm x 0 {b: 2}"},
		{"stack a resource vm x { b: 1 } output o = 1", "stack a resource vm x { b: 2 }", "1; vm x 1 {b: 1}; update vm x 1 {b: 2}; o = 1"},
		{"stack a resource vm x { b: 1 }", "stack a", "1; vm x 1 {b: 1}; delete vm x 1 {b: 1}"},
	} {
		noted := 0
		for n := range 30 {
			l := run(t, "add "+x.from, "deploy", "new", "add "+x.to, "arm "+strconv.Itoa(n), "deploy", "restart 0 0", "state a", "plan a", "resume", "deploy", "state a", "plan a")
			fallen, has, plan := l[5], l[7], l[8]
			if fallen == "ok" {
				break
			}
			if has == x.want {
				noted++
			}
			if fallen != "error 10" || (has == x.want) != (plan == "error 15") {
				t.Errorf("arm %d: deploy: %s; state: %s; plan: %s", n, fallen, has, plan)
			}
			if l[10] != "ok" || l[12] != "-" || strings.Contains(l[11], "; create") || strings.Contains(l[11], "; update") || strings.Contains(l[11], "; delete") {
				t.Errorf("arm %d, deployed again: %q", n, l[9:])
			}
		}
		if noted == 0 {
			t.Errorf("%s was never told", x.want)
		}
	}
}

// N1: things and calls.
func TestThings(t *testing.T) {
	told(t, `
things => -
calls => 0
add stack a resource vm z { b: "\"\\\x07;", c: [1, {d: null}] } resource net y { } => ok
fail 0 => ok
deploy => error 12
calls => 1
things => -
deploy => ok
things => 1 vm {b: "\"\\\x07;", c: [1, {d: null}]}; 2 net {}
calls => 3
lose 1 => ok
things => 2 net {}
deploy => ok
things => 2 net {}; 3 vm {b: "\"\\\x07;", c: [1, {d: null}]}
calls => 4`)
}

// N1: eval: what it is, or where it can't be read.
func TestEval(t *testing.T) {
	told(t, `
eval 7 => 7
eval -5 => -5
eval (1 + 2) => 3
eval   ("a" + "b")   # a remark => "ab"
eval [1, "x", null, true, false, {a: 1, b: []}] => [1, "x", null, true, false, {a: 1, b: []}]
eval get {a: [1, "x"], b: -5} b => -5
eval ((1 == 2) ? 1 : [1]) => [1]
eval "\x41\"\x00" => "A\"\x00"
eval in.a => error 7
eval res.a.id => error 7
eval stack.a.b => error 7
eval get {a: 1} b => error 7
eval (1 + "x") => error 9
eval (1 ? 2 : 3) => error 9
eval (1000000000 + 1) => error 1
eval (1 + => error 5 at 4
eval 1 2 => error 5 at 2
eval x => error 5 at 0
eval (true ? 1 : x) => error 5 at 12
eval {b: 1, a: 2} => error 3 at 8
eval [1, $] => error 4 at 4
eval 1000000001 => error 1 at 0
eval 00 => error 1 at 0
eval -0 => error 1 at 1
eval abcdefghijklm => error 1 at 0
eval [[[[[[1]]]]]] => error 2 at 6`)
	if l := run(t, "eval", "eval ", "eval  ", "eval #", "add stack a input b = 1", "eval in.b", "eval\t1", "eval 1\n", "eval 1\t"); !slices.Equal(l, []string{"error 5 at 0", "error 5 at 0", "error 5 at 1", "error 5 at 1", "ok", "error 7", "error 5", "1", "error 4 at 1"}) {
		t.Errorf("eval: %q", l)
	}
	long := "[" + strings.Repeat("1, ", 60) + "1]"
	if got := last(t, "eval "+long); got != "error 2 at 0" {
		t.Errorf("eval of %s = %s", long, got)
	}
}

// N1: lose and spoil: what others do.
func TestOthers(t *testing.T) {
	told(t, `
add stack a resource vm x { b: 1 } resource vm y { b: 2 } => ok
deploy => ok
spoil 1 {} => ok
things => 1 vm {}; 2 vm {b: 2}
spoil 2 { z : [ 1 , {q: "a b"} ] } # so => ok
things => 1 vm {}; 2 vm {z: [1, {q: "a b"}]}
spoil 1 7 => ok
spoil 1 [1] => ok
spoil 1 null => ok
spoil 3 {b: 3} => ok
spoil 0 {b: 3} => ok
spoil -1 {b: 3} => ok
spoil 99999 {b: 3} => ok
things => 1 vm {}; 2 vm {z: [1, {q: "a b"}]}
spoil 1 { => error 5
spoil 1 {a: in.b} => error 5
spoil 1 {a: (1 + 2)} => error 5
spoil 1 (1 + "x") => error 5
spoil 1 {b: 1, a: 2} => error 3
spoil 1 {a: $} => error 4
spoil 1 {a: 1000000001} => error 1
spoil 1 [[[[[[1]]]]]] => error 2
spoil 1 => error 5
spoil => error 5
spoil {} 1 => error 5
spoil  1 {} => error 5
spoil 01 {} => error 5
spoil x {} => error 5
things => 1 vm {}; 2 vm {z: [1, {q: "a b"}]}
lose 0 => ok
lose -1 => ok
lose 3 => ok
lose 99999 => ok
lose 2 => ok
lose 2 => ok
things => 1 vm {}
deploy => ok
things => 1 vm {b: 1}; 3 vm {b: 2}
calls => 4`)
}

// N1: fail: the call behind so many more, from now on.
func TestFail(t *testing.T) {
	told(t, `
add stack a resource vm x { } => ok
add stack b resource vm x { } => ok
add stack c resource vm x { } => ok
fail 1 => ok
fail 2 => ok
deploy => error 12
stacks => a
deploy => error 12
stacks => a
deploy => ok
calls => 5
fail -1 => ok
fail 0 => ok
destroy => error 12
fail 3 => ok
destroy => ok
things => -
calls => 9
deploy a => error 12
fail 99999 => ok
deploy => ok`)
}

// N1, W6: steal and yield: somebody else, who is alive, has these locks.
func TestSteal(t *testing.T) {
	told(t, three+`
steal web alone => ok
steal web => ok
deploy base => ok
deploy => error 14
stacks => base
destroy web => error 14
yield base none => ok
deploy web => error 14
yield web => ok
deploy web => ok
deploy alone => error 14
yield alone alone => ok
yield alone => ok
deploy => ok
things => 1 net {size: 3}; 2 vm {net: 1}; 3 vm {}
steal none => ok
deploy none => error 7
steal Web => error 3
steal web Alone => error 3
yield Web => error 3
deploy => ok
steal web => ok
yield web Web => error 3
deploy => error 14
restart 0 0 => ok
deploy => error 14
new => ok
yield web => ok
steal => error 5
yield => error 5`[1:])
}

// N1: so many locks that the disk has no room for them: none is taken.
func TestStealTooMany(t *testing.T) {
	var names []string
	for i := range api.MaxFiles + 1 {
		names = append(names, "a"+strconv.Itoa(i))
	}
	all := strings.Join(names, " ")
	fit := strings.Join(names[1:], " ")
	l := run(t, "steal "+all, "add stack a0", "deploy", "steal "+fit, "destroy", "yield "+all, "deploy", "steal "+fit, "state a0")
	if want := []string{"error 2", "ok", "ok", "error 2", "ok", "ok", "ok", "error 2", "0"}; !slices.Equal(l, want) {
		t.Errorf("%q, want %q", l, want)
	}
}

// W3, W6: a lock that a fall left to the session is not stolen: its owner is alive.
func TestStealWhatIsHad(t *testing.T) {
	held := 0
	for n := range 12 {
		l := run(t, "add stack a resource vm x { }", "arm "+strconv.Itoa(n), "deploy", "restart 9 0", "steal a", "deploy", "yield a", "deploy", "things")
		if l[2] == "ok" {
			break
		}
		switch {
		case l[4] == "error 14" && l[5] == "ok":
			held++
		case l[4] != "ok" || l[5] != "error 14":
			t.Errorf("arm %d: %q", n, l)
		}
		if l[7] != "ok" || l[8] != "1 vm {}" {
			t.Errorf("arm %d: %q", n, l)
		}
	}
	if held < 5 {
		t.Errorf("the lock was left %d times", held)
	}
}

// N1: resume: what was begun, and not brought to its end.
func TestResume(t *testing.T) {
	told(t, three+`
resume => false
fail 1 => ok
deploy web => error 12
stacks => base
resume => true
stacks => base web
resume => false
fail 0 => ok
destroy => error 12
add ( => ok
resume => error 5
new => ok
resume => error 7
`[1:]+three+`
restart 0 0 => ok
resume => true
things => -
resume => false
steal base => ok
deploy web => error 14
resume => error 14
yield base => ok
resume => true
stacks => base web`[1:])
}

// N1: restart: the disk begins with what is kept, and the coord is opened anew.
func TestRestart(t *testing.T) {
	// all that was answered is kept, whatever is lost
	for _, line := range []string{"restart 0 0", "restart -1 -1", "restart 99999 99999", "restart 0 -1", "restart 7 0"} {
		l := run(t, "add stack a resource vm x { } output o = 1", "deploy", "steal b", line, "state a", "stacks", "add stack b", "deploy", "resume", "things")
		if want := []string{"ok", "ok", "ok", "ok", "1; vm x 1 {}; o = 1", "a", "ok", "error 14", "error 14", "1 vm {}"}; !slices.Equal(l, want) {
			t.Errorf("%s: %q, want %q", line, l, want)
		}
	}
	// at the second step what is begun is noted, and not kept: as much of it as is kept is there, for the coord that is opened then
	for keep, want := range map[string]string{"restart 0 0": "false", "restart 0 5": "false", "restart 0 99999": "true", "restart 1 0": "true"} {
		l := run(t, "add stack a resource vm x { }", "arm 1", "deploy", "resume", "stacks", "calls", keep, "resume", "deploy", "things", "resume")
		if want := []string{"ok", "ok", "error 10", "false", "error 10", "0", "ok", want, "ok", "1 vm {}", "false"}; !slices.Equal(l, want) {
			t.Errorf("%s: %q, want %q", keep, l, want)
		}
	}
}

// N1: arm: the disk falls at the step behind so many more.
func TestArm(t *testing.T) {
	told(t, `
add stack a => ok
arm 0 => ok
calls => 0
things => -
state a => 0
deploy => error 10
state a => error 10
stacks => error 10
plan a => error 10
steal a => error 10
yield a => error 10
check => ok
eval 1 => 1
restart 0 0 => ok
deploy => ok
arm 0 => ok
arm -1 => ok
deploy => ok
arm 3 => ok
restart 0 0 => ok
deploy => ok
arm 99999 => ok
deploy => ok`)
}

// N1: a number has five digits at most, and no noughts ahead; or it is -1.
func TestNumbers(t *testing.T) {
	good := []string{"0", "1", "9", "10", "100", "99999", "-1"}
	wrong := []string{"00", "01", "-2", "-0", "-01", "--1", "-", "+1", "100000", "000001", "-10", "1.0", "1x", "x", "0x1", "1_0", "1,0", "\t1", "1\n", "99999999999999999999", "-99999999999999999999", "²", "１"}
	forms := []string{"lose %s", "fail %s", "arm %s", "restart %s 0", "restart 0 %s", "restart %[1]s %[1]s", "spoil %s {}"}
	for _, form := range forms {
		for _, n := range good {
			if got := last(t, fmt.Sprintf(form, n)); got != "ok" {
				t.Errorf("%q: %s", fmt.Sprintf(form, n), got)
			}
		}
		for _, n := range append(wrong, "", " ", " 1", "1 1 1") {
			if got := last(t, fmt.Sprintf(form, n)); got != "error 5" && !(n == "1 1 1" && strings.HasPrefix(form, "spoil")) {
				t.Errorf("%q: %s", fmt.Sprintf(form, n), got)
			}
		}
	}
}

// N2: a line that is none of these changes nothing.
func TestNoSuchLine(t *testing.T) {
	ahead := []string{"add stack a resource vm x { b: 1 } output o = res.x.id", "deploy"}
	behind := []string{"calls", "things", "stacks", "state a", "plan a", "resume", "check", "deploy", "calls"}
	want := run(t, slices.Concat(ahead, behind)...)[2:]
	if got := strings.Join(want, ", "); got != "1, 1 vm {b: 1}, a, 1; vm x 1 {b: 1}; o = 1, -, false, ok, ok, 1" {
		t.Fatalf("without such a line: %s", got)
	}
	wrong := []string{
		"", " ", "  ", "fly", "Deploy", "DEPLOY", "deployed", "deplo", "x deploy", "-", "ok", "\n", "\x00", "\xff", "#", "# deploy",
		" deploy", "deploy ", "deploy  ", "deploy  a", " deploy a", "deploy a ", "deploy a  a", "deploy\ta", "deploy\n", "\ndeploy",
		" destroy", "destroy ", "destroy  a", "destroy a ", "destroy\ta",
		"new x", "new ", " new", "new\n", "check a", "check ", " check", "resume a", "resume ", "resume 1",
		"plan", "plan ", "plan  a", "plan a ", "plan a a", " plan a", "state", "state ", "state  a", "state a ", "state a a", " state a",
		"stacks a", "stacks ", "things 1", "things ", "calls 1", "calls ", "calls -1",
		"steal", "steal ", "steal  a", "steal a ", " steal a", "yield", "yield ", "yield  a", "yield a ",
		"lose", "lose ", "lose 1 1", "lose 1 ", "lose  1", " lose 1", "fail", "fail ", "fail 0 0", "fail 0 ", "fail  0",
		"arm", "arm ", "arm 0 0", "arm 0 ", "arm  0", "restart", "restart ", "restart 1", "restart 1 ", "restart 1 1 1", "restart 1  1", "restart  1 1", "restart 1 1 ",
		"spoil", "spoil ", "spoil 1", "spoil 1 ", "spoil x {}", "spoil  1 {}", " spoil 1 {}", "spoil\t1 {}", "spoil 1\t{}",
		" add x", "adds x", "add\tx", "addx", "add\n", " eval 1", "eval\n1", "evals 1", "eval1",
	}
	for _, line := range wrong {
		l := run(t, slices.Concat(ahead, []string{line}, behind)...)
		if l[2] != "error 5" || !slices.Equal(l[3:], want) {
			t.Errorf("%q: %q, want error 5 and %q", line, l[2:], want)
		}
	}
}

// N2: how long a line may be.
func TestLongLines(t *testing.T) {
	padded := func(ahead string, bytes int) string { return ahead + strings.Repeat(" ", bytes-len(ahead)) }
	named := func(word string, bytes int) string { // with a name at the end that makes it so long
		s := word + strings.Repeat(" a", (bytes-len(word))/2-1)
		return s + " a" + strings.Repeat("b", bytes-len(s)-2)
	}
	for bytes, long := range map[int]bool{api.MaxLine - 1: false, api.MaxLine: false, api.MaxLine + 1: true, api.MaxLine + 2: true, 100000: true} {
		cases := []struct{ line, want string }{
			{padded("add stack a", bytes), "ok"}, {padded("eval 1", bytes), "1"}, {padded("eval (1 + ", bytes), "error 5 at " + strconv.Itoa(bytes-5)}, {padded("spoil 1 {}", bytes), "ok"},
			{padded("spoil 1 {a: 1000000001}", bytes), "error 1"},
		}
		if bytes < 1000 {
			cases = append(cases, []struct{ line, want string }{{named("deploy", bytes), "error 7"}, {named("steal", bytes), "ok"}, {named("yield", bytes), "ok"}}...)
		}
		for _, c := range cases {
			if len(c.line) != bytes {
				t.Fatalf("a line of %d bytes has %d", bytes, len(c.line))
			}
			if long {
				c.want = "error 5"
			}
			if got := last(t, c.line); got != c.want {
				t.Errorf("%.20q.. of %d bytes: %s, want %s", c.line, bytes, got, c.want)
			}
		}
		// what is too long is not added
		if got, want := last(t, padded("add stack a", bytes), "plan a"), "-"; !long && got != want || long && got != "error 7" {
			t.Errorf("behind a line of %d bytes: %s", bytes, got)
		}
	}
}

// N1, N2, Z3: the work's errors come first: of reading it, then of checking it; then what is done with it.
func TestErrorsOfTheWork(t *testing.T) {
	works := map[string]string{
		"add stack a input b = 1000000001":                                            "error 1",
		"add stack abcdefghijklm":                                                     "error 1",
		"add stack a resource vm x { a: [[[[[[1]]]]]] }":                              "error 2",
		"add stack a stack b stack c stack d stack e stack f stack g stack h stack i": "error 2",
		"add stack a resource vm x { b: 1, a: 1 }":                                    "error 3",
		"add stack a $":                         "error 4",
		"add stack":                             "error 5",
		"add input a = 1":                       "error 5",
		"add stack a input b = [1]":             "error 5",
		"add stack a stack b stack a":           "error 6",
		"add stack a output o = 1 output o = 2": "error 6",
		"add stack a output o = in.b":           "error 7",
		"add stack a output o = stack.b.o":      "error 7",
		"add stack a resource vm x { a: res.y.id } resource vm y { a: res.x.id }": "error 8",
		"add stack a output o = stack.b.o stack b output o = stack.a.o":           "error 8",
		"add stack a output o = in.b stack a $":                                   "error 4",
	}
	for add, want := range works {
		l := run(t, add, "check", "deploy", "deploy none", "deploy a", "destroy", "destroy none", "plan a", "plan none", "resume", "stacks", "things", "calls", "state a", "eval 1", "steal a", "yield a")
		for _, got := range l[1:10] {
			if got != want {
				t.Errorf("%s: %q, want %s", add, l, want)
				break
			}
		}
		if !slices.Equal(l[10:], []string{"-", "-", "0", "0", "1", "ok", "ok"}) {
			t.Errorf("%s: %q", add, l)
		}
	}
}
