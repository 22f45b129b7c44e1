package state_test

import (
	"strconv"
	"strings"
	"testing"

	"wavewright/api"
	"wavewright/state"
	"wavewright/value"
)

// K2, K3, W7: texts, written out.
func TestTextAndParse(t *testing.T) {
	cases := []struct {
		s    api.State
		want string
	}{
		{api.State{}, "serial 0\nsum 8583547940238927585\n"},
		{api.State{Serial: api.MaxNumber}, "serial 1000000000\nsum 17800441716892911456\n"},
		{site(), `serial 7
held vm one 2 {size: 2}
held vm two 3 {size: 3}
intent 1 web.three.7.1 vm three 0 {size: 0}
intent 2 web.one.7.1 vm one 2 {size: 2}
intent 3 web.two.7.1 vm two 3 {size: 3}
out big true
out id 2
sum 13545079722045564833
`},
		{api.State{
			Held: []api.Held{{Name: "held", Kind: "sum", ID: 1, Attrs: rec(field("a", text("sum 1\n\"\\\xff")), field("sum", list(num(-5), rec(), api.Value{})))}},
			Outs: []api.Field{field("sum", text("sum ")), field("xsum", num(1))},
		}, "serial 0\nheld sum held 1 {a: \"sum 1\\x0a\\\"\\\\\\xff\", sum: [-5, {}, null]}\nout sum \"sum \"\nout xsum 1\nsum 9511064008905300147\n"},
	}
	for _, c := range cases {
		told, err := state.Text(c.s)
		if told != c.want || err != nil {
			t.Errorf("Text = %q, %v, want %q", told, err, c.want)
		}
		if s, err := state.Parse(c.want); !same(s, c.s) || err != nil {
			t.Errorf("Parse(%q) = %+v, %v", c.want, s, err)
		}
	}
}

// summed: lines with the sum that they have.
func summed(lines string) string {
	return lines + "sum " + strconv.FormatUint(value.Sum(lines), 10) + "\n"
}

func parseWrong(t *testing.T, told string, want error) {
	t.Helper()
	if s, err := state.Parse(told); !isEmpty(s) || err != want {
		t.Errorf("Parse(%.200q) = %+v, %v, want nothing, %v", told, s, err, want)
	}
}

// K3
func TestParseSum(t *testing.T) {
	good := summed("serial 0\n")
	number := strings.TrimSuffix(strings.TrimPrefix(good, "serial 0\nsum "), "\n")
	cases := []string{
		"", "\n", "sum", "sum ", "sum \n", "serial 0\n", "x",
		"serial 0\nsum " + number,          // no end of a line
		"serial 0\nsum " + number + "\n\n", // and something more
		"serial 0\nsum " + number + "\n ",
		"serial 0\nsum " + number + "\nserial 0\n",
		"serial 0\nsum " + number + "\nsum \n",
		"serial 0\nsum 0" + number + "\n",
		"serial 0\nsum +" + number + "\n",
		"serial 0\nsum  " + number + "\n",
		"serial 0\nsum " + number + " \n",
		"serial 0\nsum\t" + number + "\n",
		"serial 0\nSum " + number + "\n",
		"serial 0\nsum 0\n",
		"serial 0\nsum -1\n",
		"serial 1\nsum " + number + "\n",
		" serial 0\nsum " + number + "\n",
		good + good,                  // the sum is of all that stands ahead
		"sum 14695981039346656036\n", // one less than that of nothing
		"serial 0\nsum 99999999999999999999999\n",
	}
	for _, c := range cases {
		parseWrong(t, c, api.ErrSum)
	}
	if s, err := state.Parse(good); !isEmpty(s) || err != nil {
		t.Errorf("Parse(%q) = %+v, %v", good, s, err)
	}
	// the last `sum ` is meant, wherever it stands
	for _, lines := range []string{"", "serial 0\nout a \"", "serial 0", "serial 0\nsum 1\n", good, "serial 0\nout a"} {
		parseWrong(t, summed(lines), api.ErrText)
	}
	parseWrong(t, summed("serial 0\nout a \"sum ")+"\"\n", api.ErrSum)
}

// K3: one byte that is another one, or is not there, or is there twice.
func TestParseSpoiled(t *testing.T) {
	told, err := state.Text(site())
	if err != nil {
		t.Fatal(err)
	}
	for i := range told {
		for bit := range 8 {
			b := []byte(told)
			b[i] ^= 1 << bit
			parseWrong(t, string(b), api.ErrSum)
		}
		parseWrong(t, told[:i], api.ErrSum)
		parseWrong(t, told[:i]+told[i+1:], api.ErrSum)
		parseWrong(t, told[:i]+told[i:i+1]+told[i:], api.ErrSum)
	}
}

// K3: lines that no state has, with the sum that they have.
func TestParseText(t *testing.T) {
	wrong := []string{
		"", "\n", "x\n", "serial\n", "serial \n", "serial 0 \n", "serial  0\n", " serial 0\n", "Serial 0\n", "serial x\n", "serial 0\n\n", "\nserial 0\n", "serial 0\r\n",
		"serial 00\n", "serial 07\n", "serial +7\n", "serial -0\n", "serial -1\n", "serial 1000000001\n", "serial 99999999999999999999\n", "serial 7.0\n",
		"serial 0\nserial 0\n", "serial 1\nserial 0\n", "held vm a 1 {}\n", "held vm a 1 {}\nserial 0\n",
		"serial 0\nout a 1\nheld vm a 1 {}\n", "serial 0\nout a 1\nintent 1 t vm a 1 {}\n", "serial 0\nintent 1 t vm a 1 {}\nheld vm a 1 {}\n",
		"serial 0\nx vm a 1 {}\n", "serial 0\nsum 1\n", "serial 0\nheld\n", "serial 0\nheld \n", "serial 0\n# a remark\n", "serial 0 # a remark\n",
	}
	for _, h := range []string{
		"", "vm", "vm a", "vm a 1", "vm a 1 ", "vm a {}", "vm 1 {}", "a 1 {}", "vm a 1 {} ", "vm a 1  {}", "vm  a 1 {}", " vm a 1 {}", "vm a 1 {} {}", "vm a 1 {} # x",
		"vm a -1 {}", "vm a 01 {}", "vm a +1 {}", "vm a x {}", "vm a 99999999999999999999 {}", "Vm a 1 {}", "vm A 1 {}", "vm 0 1 {}", "0 a 1 {}",
		"vm a 1 null", "vm a 1 []", "vm a 1 1", "vm a 1 {", "vm a 1 { }", "vm a 1 {a:1}", "vm a 1 {a : 1}", "vm a 1 {a: 1,b: 2}", "vm a 1 {a: 1, }", `vm a 1 {"a": 1}`,
		"vm a 1 {a: 1, a: 1}", "vm a 1 {b: 1, a: 1}", "vm a 1 {a: (1 + 1)}", "vm a 1 {a: in.a}", `vm a 1 {a: "\x41"}`, `vm a 1 {a: "\xFF"}`, "vm a 1 {a: -0}", "vm a 1 {a: 01}",
		"vm a 1 {a: 1000000001}", "vm a 1 {a: [[[[[[]]]]]]}", "vm a 1 get {a: {}} a", "vm a 1 {a: " + strings.Repeat("[", 3000) + "}",
	} {
		wrong = append(wrong, "serial 0\nheld "+h+"\n", "serial 0\nintent 1 t "+h+"\n")
	}
	for _, l := range []string{
		"held vm a 0 {}\n", "held vm a 1 {}\nheld vm a 2 {}\n", "held vm b 1 {}\nheld vm a 2 {}\n", strings.Repeat("held vm a 1 {}\n", 2*api.MaxItems+1),
		"intent\n", "intent 1\n", "intent 1 t\n", "intent 1 vm a 1 {}\n", "intent t vm a 1 {}\n", "intent 0 t vm a 1 {}\n", "intent 4 t vm a 1 {}\n", "intent 01 t vm a 1 {}\n", "intent x t vm a 1 {}\n",
		"intent 1 T vm a 1 {}\n", "intent 1  vm a 1 {}\n", "intent 1 t  vm a 1 {}\n", "intent 1 " + strings.Repeat("t", 3*api.MaxName+1) + " vm a 1 {}\n", strings.Repeat("intent 1 t vm a 1 {}\n", api.MaxItems+1),
		"out\n", "out a\n", "out a \n", "out  1\n", "out 1\n", "out A 1\n", "out a 1 \n", "out a  1\n", "out a 1 1\n", "out a 1\nout a 1\n", "out b 1\nout a 1\n", "out a [1,2]\n", "out a [[[[[[[]]]]]]]\n",
		"out a res.a.id\n", "out a stack.a.id\n", "out a (true ? 1 : 2)\n", "out a True\n", "out abcdefghijklm 1\n", "out a \"" + strings.Repeat("x", api.MaxText+1) + "\"\n", "out a \"x\n", "out a [1,\n1]\n",
	} {
		wrong = append(wrong, "serial 0\n"+l)
	}
	for _, w := range wrong {
		parseWrong(t, summed(w), api.ErrText)
	}
}

// long: as many of the longest texts.
func long(n int) []api.Value { return repeated(text(strings.Repeat("x", api.MaxText)), n) }

// sized: a state whose text has just so many bytes (some 4000).
func sized(t *testing.T, bytes int) api.State {
	t.Helper()
	for n := 25; n < 40; n++ {
		for pad := range api.MaxText + 1 {
			for serial := 1; serial <= 1000; serial *= 10 {
				last := append(long(n), text(strings.Repeat("p", pad)))
				s := api.State{Serial: serial, Outs: []api.Field{field("a", list(long(api.MaxParts-1)...)), field("b", list(last...))}}
				if told, err := state.Text(s); len(told) == bytes && err == nil {
					return s
				}
			}
		}
	}
	t.Fatalf("no state has %d bytes", bytes)
	return api.State{}
}

// K3: how many bytes a text may have.
func TestParseMany(t *testing.T) {
	for bytes := api.MaxData - 1; bytes <= api.MaxData+1; bytes++ {
		s := sized(t, bytes)
		told, err := state.Text(s)
		if err != nil || len(told) != bytes {
			t.Fatalf("Text: %d bytes, %v", len(told), err)
		}
		if bytes > api.MaxData {
			parseWrong(t, told, api.ErrMany)
			continue
		}
		if got, err := state.Parse(told); !same(got, s) || err != nil {
			t.Errorf("Parse of %d bytes = %+v, %v", bytes, got, err)
		}
	}
	parseWrong(t, strings.Repeat("x", api.MaxData), api.ErrSum)
	parseWrong(t, strings.Repeat("x", api.MaxData+1), api.ErrMany)
	parseWrong(t, summed(strings.Repeat("x", api.MaxData-30)), api.ErrText)
	parseWrong(t, summed(strings.Repeat("x", api.MaxData)), api.ErrMany)
}

// K3
func TestValue(t *testing.T) {
	good := []struct {
		s    string
		want api.Value
	}{
		{"null", api.Value{}}, {"true", api.Value{Kind: api.Flag, N: 1}}, {"false", api.Value{Kind: api.Flag}},
		{"0", num(0)}, {"-1000000000", num(-api.MaxNumber)}, {"1000000000", num(api.MaxNumber)},
		{`""`, text("")}, {`"a\"\\\x00\xff"`, text("a\"\\\x00\xff")}, {"[]", list()}, {"{}", rec()},
		{"[1, {a: 2}]", list(num(1), rec(field("a", num(2))))},
		{"{in: [null], null: {get: true}}", rec(field("in", list(api.Value{})), field("null", rec(field("get", api.Value{Kind: api.Flag, N: 1}))))},
		{" [ 1 ,2 ]# as Parse reads it\n", list(num(1), num(2))}, {`{"a": 1}`, rec(field("a", num(1)))},
		{"[[[[[1]]]]]", list(list(list(list(list(num(1))))))}, {"[[[[[[]]]]]]", deep(6)},
		{"[" + strings.Repeat("1,", api.MaxParts-2) + "1]", list(repeated(num(1), api.MaxParts-1)...)},
	}
	for _, c := range good {
		if v, err := state.Value(c.s); !value.Alike(v, c.want) || err != nil {
			t.Errorf("Value(%s) = %+v, %v, want %+v", c.s, v, err, c.want)
		}
	}
	wrong := []struct {
		s    string
		want error
	}{
		{"in.a", api.ErrText}, {"res.a.b", api.ErrText}, {"stack.a.b", api.ErrText}, {"(1 + 2)", api.ErrText}, {"(1 == 1)", api.ErrText}, {"(true ? 1 : 2)", api.ErrText}, {"get {a: 1} a", api.ErrText},
		{"[in.a]", api.ErrText}, {"[1, [{a: 1, b: res.a.b}]]", api.ErrText}, {"{a: {a: (1 + 1)}}", api.ErrText}, {"[1, get {a: 1} a, 2]", api.ErrText}, {`(1 + "x")`, api.ErrText},
		{"", api.ErrText}, {"[", api.ErrText}, {"x", api.ErrText}, {"1 1", api.ErrText}, {"in.a in.b", api.ErrText}, {"--1", api.ErrText},
		{"%", api.ErrSign}, {`"`, api.ErrSign}, {"\xff", api.ErrSign}, {"(1 + %", api.ErrSign},
		{"1000000001", api.ErrBound}, {"-0", api.ErrBound}, {"007", api.ErrBound}, {"abcdefghijklm", api.ErrBound}, {`"` + strings.Repeat("x", api.MaxText+1) + `"`, api.ErrBound},
		{"{b: 1, a: 2}", api.ErrShape}, {"{a: in.a, a: 2}", api.ErrShape},
		{"[[[[[[1]]]]]]", api.ErrMany}, {"[" + strings.Repeat("1,", api.MaxParts-1) + "1]", api.ErrMany}, {"[" + strings.Repeat("in.a,", api.MaxParts-1) + "1]", api.ErrMany},
		{strings.Repeat(" ", api.MaxWork) + "1", api.ErrMany}, {strings.Repeat("[", api.MaxWork), api.ErrMany},
	}
	for _, c := range wrong {
		if v, err := state.Value(c.s); !value.Alike(v, api.Value{}) || err != c.want {
			t.Errorf("Value(%.80q) = %+v, %v, want nothing, %v", c.s, v, err, c.want)
		}
	}
}

func repeated(v api.Value, n int) []api.Value {
	var l []api.Value
	for range n {
		l = append(l, v)
	}
	return l
}

// Z2: what comes out is the caller's, each list for itself.
func TestParsedIsTheCallers(t *testing.T) {
	s := api.State{Held: []api.Held{
		{Name: "a", Kind: "vm", ID: 1, Attrs: rec(field("a", list(num(1))), field("b", list(num(1))))},
		{Name: "b", Kind: "vm", ID: 2, Attrs: rec(field("a", list(num(1))))},
	}}
	told, _ := state.Text(s)
	got, err := state.Parse(told)
	if err != nil {
		t.Fatal(err)
	}
	_ = append(got.Held[0].Attrs.F[0].V.L, num(9))
	got.Held[0].Attrs.F[0].V.L[0] = num(7)
	_ = append(got.Held[0].Attrs.F[:1], field("z", num(8)))
	s.Held[0].Attrs = rec(field("a", list(num(7))), field("z", num(8)))
	if !same(got, s) {
		t.Errorf("lists share memory: %+v", got)
	}
	if again, err := state.Parse(told); same(again, s) || err != nil {
		t.Errorf("what was handed out is not the caller's alone: %+v, %v", again, err)
	}
}
