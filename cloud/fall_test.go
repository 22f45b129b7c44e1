package cloud_test

import (
	"fmt"
	"testing"

	"wavewright/api"
	"wavewright/cloud"
	"wavewright/disk"
	"wavewright/value"
)

// deed on a cloud that has two things.
type deed struct {
	what string
	do   func(*cloud.Cloud) error
}

func deeds() []deed {
	return []deed{
		{"Create", func(c *cloud.Cloud) error { _, err := c.Create("t", "vm", size(3)); return err }},
		{"Create by a token that did so", func(c *cloud.Cloud) error { _, err := c.Create("t1", "vm", size(3)); return err }},
		{"Update", func(c *cloud.Cloud) error { return c.Update("t", 1, size(3)) }},
		{"Update by a token that did another", func(c *cloud.Cloud) error { return c.Update("t1", 1, size(3)) }},
		{"Update of none", func(c *cloud.Cloud) error { return c.Update("t", 9, size(3)) }},
		{"Delete", func(c *cloud.Cloud) error { return c.Delete("t", 1) }},
		{"Delete by a token that did another", func(c *cloud.Cloud) error { return c.Delete("t1", 1) }},
		{"Delete of none", func(c *cloud.Cloud) error { return c.Delete("t", 9) }},
	}
}

// I2: each is one step of the disk, whatever comes of it; if the disk falls there, it is no call, and nothing is done.
func TestEachIsAStep(t *testing.T) {
	for _, x := range deeds() {
		c, d := with(t, 12, 1, 2)
		_ = x.do(c)
		if d.Steps() != 3 || c.Calls() != 3 {
			t.Errorf("%s: %d steps, %d calls, want 3, 3", x.what, d.Steps(), c.Calls())
		}
		c, d = with(t, 12, 1, 2)
		c.Fail(2)
		d.Arm(0)
		for range 2 {
			if err := x.do(c); err != api.ErrDown || !d.Down() {
				t.Errorf("%s, at which the disk falls: %v, Down() = %v", x.what, err, d.Down())
			}
		}
		has(t, c, 2, "1 vm {size: 1}; 2 vm {size: 2}")
		d.Restart(0, 0)
		if err := x.do(c); err != api.ErrBusy { // for it is the call 2 first now
			t.Errorf("%s, behind a fall: %v, want %v", x.what, err, api.ErrBusy)
		}
		has(t, c, 3, "1 vm {size: 1}; 2 vm {size: 2}")
	}
}

// I1, I3: it falls with the disk, but loses nothing: what was done by then is there, the tokens too.
func TestFallLosesNothing(t *testing.T) {
	c, d := with(t, 12, 1, 2, 3)
	good(t, c.Update("u", 1, size(9)), c.Delete("d", 2), d.Write("a", "x"))
	c.Spoil(3, size(7))
	fell(t, d)
	const want = "1 vm {size: 9}; 3 vm {size: 7}"
	has(t, c, 5, want)
	for _, id := range []int{1, 2, 99} {
		if x, err := c.Read(id); thing(x) != thing(api.Thing{}) || err != api.ErrDown {
			t.Errorf("Read(%d) of one that is down = %v, %v, want nothing, %v", id, x, err, api.ErrDown)
		}
	}
	d.Restart(0, 0)
	if _, err := d.Read("a"); err != api.ErrNone {
		t.Fatalf("the disk lost nothing: %v", err)
	}
	has(t, c, 5, want)
	creates(t, c, "t2", 2, size(2))
	good(t, c.Update("u", 1, size(1)), c.Delete("d", 1))
	has(t, c, 8, want)
	creates(t, c, "new", 4, size(4))
}

// I3: others may take away and change also while it is down.
func TestOthersWhileDown(t *testing.T) {
	c, d := with(t, 12, 1, 2, 3)
	fell(t, d)
	c.Lose(1)
	c.Spoil(3, size(7))
	c.Fail(3)
	has(t, c, 3, "2 vm {size: 2}; 3 vm {size: 7}")
	d.Restart(0, 0)
	has(t, c, 3, "2 vm {size: 2}; 3 vm {size: 7}")
	if err := c.Delete("d", 2); err != api.ErrBusy {
		t.Errorf("Delete = %v, want %v", err, api.ErrBusy)
	}
}

// W3, as far as it is the cloud's: done again by its token behind a fall at any step, nothing is there twice.
func TestDoneAgainBehindAFall(t *testing.T) {
	run := func(c *cloud.Cloud) error {
		if _, err := c.Create("a", "vm", size(1)); err != nil {
			return err
		}
		if _, err := c.Create("b", "vm", size(2)); err != nil {
			return err
		}
		if err := c.Update("c", 1, size(3)); err != nil {
			return err
		}
		return c.Delete("d", 2)
	}
	for n := range 6 {
		c, d := made(t, 2)
		d.Arm(n)
		if err := run(c); (err == api.ErrDown) != (n < 4) {
			t.Errorf("a fall behind %d steps: %v", n, err)
		}
		d.Restart(0, 0)
		good(t, run(c))
		if got := things(c); got != "1 vm {size: 3}" {
			t.Errorf("a fall behind %d steps: %s", n, got)
		}
	}
}

// dice: numbers that look drawn, the same each time.
type dice uint64

func (d *dice) below(n int) int {
	*d = *d*6364136223846793005 + 1442695040888963407
	return int(uint64(*d>>33) % uint64(n))
}

// plain: a cloud by the words: all things that ever were, each at its number less 1, and lists of what was done and of what is to fail.
type plain struct {
	quota, calls int
	things       []api.Thing // of those that are no more the number is 0
	tokens       []string
	ops, ids     []int
	fails        []int
	left         int
	down         bool
}

func (p *plain) all() string {
	s := ""
	for _, x := range p.things {
		if x.ID > 0 {
			s += thing(x) + "; "
		}
	}
	return s
}

func (p *plain) count() int {
	n := 0
	for _, x := range p.things {
		n += min(x.ID, 1)
	}
	return n
}

func (p *plain) there(id int) bool {
	return id > 0 && id <= len(p.things) && p.things[id-1].ID > 0
}

func (p *plain) step() bool {
	p.down = p.down || p.left == 0
	if !p.down && p.left > 0 {
		p.left--
	}
	return !p.down
}

func (p *plain) do(op int, token, kind string, id int, v api.Value) (int, error) {
	if op != api.Delete && v.Kind != api.Rec {
		return 0, api.ErrKind
	}
	if op != api.Delete && value.Check(v) != nil {
		return 0, value.Check(v)
	}
	if op == api.Create && !value.Name(kind) {
		return 0, api.ErrShape
	}
	if !p.step() {
		return 0, api.ErrDown
	}
	p.calls++
	for _, n := range p.fails {
		if n == p.calls-1 {
			return 0, api.ErrBusy
		}
	}
	for i := range p.tokens {
		if p.tokens[i] == token && p.ops[i] == op {
			return p.ids[i], nil
		}
		if p.tokens[i] == token {
			return 0, api.ErrState
		}
	}
	if op == api.Create && p.count() == p.quota {
		return 0, api.ErrQuota
	}
	if op != api.Create && !p.there(id) {
		return 0, api.ErrNone
	}
	answer := 0
	switch op {
	case api.Create:
		answer = len(p.things) + 1
		p.things = append(p.things, api.Thing{ID: answer, Kind: kind, Attrs: v})
	case api.Update:
		p.things[id-1].Attrs = v
	case api.Delete:
		p.things[id-1].ID = 0
	}
	p.tokens, p.ops, p.ids = append(p.tokens, token), append(p.ops, op), append(p.ids, answer)
	return answer, nil
}

// attrs: drawn ones, few of them wrong.
func (d *dice) attrs() api.Value {
	switch d.below(12) {
	case 0:
		return num(1)
	case 1:
		return rec(field("a", num(-2000000000)))
	case 2:
		return endless()
	case 3:
		return rec()
	}
	return rec(field("a", list(num(d.below(9)))), field("size", num(d.below(9))))
}

// I1 to I3: drawn deeds, held against the words.
func TestDrawn(t *testing.T) {
	die := dice(9)
	for range 300 {
		quota := die.below(6)
		c, d := made(t, quota)
		p := &plain{quota: quota, left: -1}
		story := fmt.Sprint("room ", quota)
		for range 60 {
			story += "; " + drawnDeed(t, &die, c, d, p)
			got := fmt.Sprint(things(c), "; ", c.Calls(), d.Down())
			if things(c) == "" {
				got = fmt.Sprint(c.Calls(), d.Down())
			}
			if want := fmt.Sprint(p.all(), p.calls, p.down); got != want {
				t.Fatalf("%s: %s, want %s", story, got, want)
			}
		}
	}
}

// drawnDeed of both; it is told.
func drawnDeed(t *testing.T, die *dice, c *cloud.Cloud, d *disk.Disk, p *plain) string {
	t.Helper()
	token, kind := string("abcdefghijklmnop"[die.below(16)]), []string{"vm", "net", "vm", "V"}[die.below(4)]
	id, v := die.below(8), die.attrs()
	var answer, wanted int
	var err, want error
	op := die.below(12)
	switch op {
	case 0, 1, 2, 3:
		answer, err = c.Create(token, kind, v)
		wanted, want = p.do(api.Create, token, kind, id, v)
	case 4, 5:
		err = c.Update(token, id, v)
		_, want = p.do(api.Update, token, kind, id, v)
	case 6:
		err = c.Delete(token, id)
		_, want = p.do(api.Delete, token, kind, id, v)
	case 7:
		c.Lose(id)
		if p.there(id) {
			p.things[id-1].ID = 0
		}
	case 8:
		c.Spoil(id, v)
		if p.there(id) && v.Kind == api.Rec && value.Check(v) == nil {
			p.things[id-1].Attrs = v
		}
	case 9:
		n := p.calls + die.below(6) - 1
		c.Fail(n)
		if n >= p.calls {
			p.fails = append(p.fails, n)
		}
	case 10:
		n := die.below(9) - 1
		d.Arm(n)
		p.left = n
	default:
		d.Restart(die.below(3), die.below(3))
		p.left, p.down = -1, false
	}
	story := fmt.Sprint(op, " ", token, " ", kind, " ", id)
	if answer != wanted || err != want {
		t.Fatalf("%s: %d, %v, want %d, %v", story, answer, err, wanted, want)
	}
	return story
}
