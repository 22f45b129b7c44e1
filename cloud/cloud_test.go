package cloud_test

import (
	"math"
	"strconv"
	"strings"
	"testing"

	"wavewright/api"
	"wavewright/cloud"
	"wavewright/disk"
	"wavewright/value"
)

func num(n int) api.Value { return api.Value{Kind: api.Num, N: n} }

func list(l ...api.Value) api.Value { return api.Value{Kind: api.List, L: l} }

func field(name string, v api.Value) api.Field { return api.Field{Name: name, V: v} }

func rec(f ...api.Field) api.Value { return api.Value{Kind: api.Rec, F: f} }

// size: attributes with one number.
func size(n int) api.Value { return rec(field("size", num(n))) }

// endless: a record in which a list has itself in it.
func endless() api.Value {
	l := make([]api.Value, 2)
	l[0] = list(l...)
	l[1] = list(l...)
	return rec(field("a", list(l...)))
}

// made: a cloud with so much room, and its disk.
func made(t *testing.T, quota int) (*cloud.Cloud, *disk.Disk) {
	t.Helper()
	d := disk.New()
	c, err := cloud.New(d, quota)
	if err != nil || c == nil {
		t.Fatalf("New(d, %d) = %v, %v", quota, c, err)
	}
	return c, d
}

// with: a cloud with so much room, and its disk; it has a vm for each of these sizes, of the numbers 1, 2 .., by the tokens t1, t2 ..
func with(t *testing.T, quota int, sizes ...int) (*cloud.Cloud, *disk.Disk) {
	t.Helper()
	c, d := made(t, quota)
	for i, n := range sizes {
		creates(t, c, "t"+strconv.Itoa(i+1), i+1, size(n))
	}
	return c, d
}

func creates(t *testing.T, c *cloud.Cloud, token string, want int, v api.Value) {
	t.Helper()
	if id, err := c.Create(token, "vm", v); id != want || err != nil {
		t.Fatalf("Create(%q) = %d, %v, want %d", token, id, err, want)
	}
}

func good(t *testing.T, errs ...error) {
	t.Helper()
	for i, err := range errs {
		if err != nil {
			t.Fatalf("deed %d: %v", i, err)
		}
	}
}

// fell: the disk is down from here on.
func fell(t *testing.T, d *disk.Disk) {
	t.Helper()
	d.Arm(0)
	if err := d.Step(); err != api.ErrDown {
		t.Fatalf("Step() of an armed disk = %v", err)
	}
}

// thing by its number, kind and attributes' text.
func thing(t api.Thing) string {
	s, err := value.Text(t.Attrs)
	if err != nil {
		s = err.Error()
	}
	return strconv.Itoa(t.ID) + " " + t.Kind + " " + s
}

// things that a cloud has, in the order in which it tells them.
func things(c *cloud.Cloud) string {
	var l []string
	for _, t := range c.All() {
		l = append(l, thing(t))
	}
	return strings.Join(l, "; ")
}

// has: are these all things, and so many the calls?
func has(t *testing.T, c *cloud.Cloud, calls int, want string) {
	t.Helper()
	if got := things(c); got != want {
		t.Errorf("All() = %s, want %s", got, want)
	}
	if got := c.Calls(); got != calls {
		t.Errorf("Calls() = %d, want %d", got, calls)
	}
}

// I1
func TestNew(t *testing.T) {
	for _, quota := range []int{0, 1, 12, api.MaxCloud} {
		c, d := made(t, quota)
		has(t, c, 0, "")
		if d.Steps() != 0 {
			t.Errorf("New(d, %d) made %d steps", quota, d.Steps())
		}
	}
	for _, quota := range []int{-1, api.MaxCloud + 1, math.MinInt, math.MaxInt} {
		if c, err := cloud.New(disk.New(), quota); c != nil || err != api.ErrBound {
			t.Errorf("New(d, %d) = %v, %v, want none, %v", quota, c, err, api.ErrBound)
		}
	}
}

// I1: two clouds of one disk have things and calls of their own.
func TestCloudsOfOneDisk(t *testing.T) {
	c, d := with(t, 3, 7)
	other, err := cloud.New(d, 3)
	good(t, err)
	creates(t, other, "t1", 1, size(8))
	c.Fail(1)
	creates(t, other, "t2", 2, size(9))
	has(t, c, 1, "1 vm {size: 7}")
	has(t, other, 2, "1 vm {size: 8}; 2 vm {size: 9}")
}

// I1, I2
func TestCreate(t *testing.T) {
	c, _ := made(t, 12)
	for i, kind := range []string{"vm", "a", "net9", "abcdefghijkl"} {
		if id, err := c.Create("t"+kind, kind, size(i)); id != i+1 || err != nil {
			t.Errorf("Create of a %s = %d, %v, want %d", kind, id, err, i+1)
		}
	}
	creates(t, c, "", 5, rec())
	creates(t, c, "any \x00 TOKEN\xff", 6, rec(field("a", list(num(1), rec())), field("b", api.Value{})))
	has(t, c, 6, "1 vm {size: 0}; 2 a {size: 1}; 3 net9 {size: 2}; 4 abcdefghijkl {size: 3}; 5 vm {}; 6 vm {a: [1, {}], b: null}")
}

// I2
func TestUpdate(t *testing.T) {
	c, _ := with(t, 12, 1, 2, 3)
	good(t, c.Update("u", 2, size(9)), c.Update("v", 3, rec()), c.Update("w", 2, rec(field("net", num(1)))), c.Update("x", 1, size(1)))
	has(t, c, 7, "1 vm {size: 1}; 2 vm {net: 1}; 3 vm {}")
}

// I2
func TestDelete(t *testing.T) {
	c, _ := with(t, 12, 1, 2, 3)
	good(t, c.Delete("u", 2))
	has(t, c, 4, "1 vm {size: 1}; 3 vm {size: 3}")
	good(t, c.Delete("v", 3), c.Delete("w", 1))
	has(t, c, 6, "")
}

// I2: no number is given again, however its thing came to be no more.
func TestNumbersAreGivenOnce(t *testing.T) {
	c, _ := with(t, 2, 1, 2)
	good(t, c.Delete("u", 2))
	creates(t, c, "v", 3, size(3))
	c.Lose(3)
	c.Lose(1)
	creates(t, c, "w", 4, size(4))
	has(t, c, 5, "4 vm {size: 4}")
}

// I3: things are told by numbers, not as their digits are.
func TestAllByNumbers(t *testing.T) {
	c, _ := made(t, api.MaxCloud)
	for i := range api.MaxCloud {
		creates(t, c, strconv.Itoa(i), i+1, size(api.MaxCloud-i))
	}
	for i, x := range c.All() {
		if x.ID != i+1 {
			t.Errorf("All()[%d] has the number %d", i, x.ID)
		}
	}
	if n := len(c.All()); n != api.MaxCloud {
		t.Errorf("there are %d things, want %d", n, api.MaxCloud)
	}
}

// I2, W5: no more things are there than there is room for; what is no more makes room.
func TestQuota(t *testing.T) {
	for _, quota := range []int{0, 1, 5, api.MaxCloud} {
		c, _ := made(t, quota)
		for i := range quota {
			creates(t, c, strconv.Itoa(i), i+1, size(i))
		}
		before := things(c)
		for range 2 { // a token that was refused did nothing
			if id, err := c.Create("more", "vm", size(0)); id != 0 || err != api.ErrQuota {
				t.Errorf("room %d: Create of one more = %d, %v, want 0, %v", quota, id, err, api.ErrQuota)
			}
		}
		has(t, c, quota+2, before)
		if quota == 0 {
			continue
		}
		creates(t, c, "0", 1, size(99)) // what was done is told, room or not
		c.Lose(quota)
		creates(t, c, "more", quota+1, size(quota))
		if _, err := c.Create("again", "vm", size(0)); err != api.ErrQuota {
			t.Errorf("room %d: Create of one more = %v, want %v", quota, err, api.ErrQuota)
		}
		good(t, c.Delete("d", quota+1))
		creates(t, c, "again", quota+2, size(0))
		if n := len(c.All()); n != quota {
			t.Errorf("room %d: there are %d things", quota, n)
		}
	}
}

// I2: what a token did is not done again, and answered as it was, whatever else it is asked for then.
func TestTokenDidIt(t *testing.T) {
	c, _ := with(t, 3, 1, 2)
	creates(t, c, "t1", 1, size(1))
	creates(t, c, "t2", 2, size(9))
	if id, err := c.Create("t2", "net", rec()); id != 2 || err != nil {
		t.Errorf("Create of another kind = %d, %v, want 2", id, err)
	}
	good(t, c.Update("u", 1, size(5)), c.Update("u", 1, size(6)), c.Update("u", 2, size(6)), c.Update("u", 99, size(6)))
	has(t, c, 9, "1 vm {size: 5}; 2 vm {size: 2}")
	good(t, c.Delete("d", 1), c.Delete("d", 1), c.Delete("d", 2), c.Delete("d", 99))
	has(t, c, 13, "2 vm {size: 2}")
	creates(t, c, "t1", 1, size(1)) // also of a thing that is no more
	good(t, c.Update("u", 1, size(7)))
	has(t, c, 15, "2 vm {size: 2}")
}

// I2: a token that did another operation may do no other.
func TestTokenOfAnother(t *testing.T) {
	c, _ := with(t, 12, 1, 2)
	good(t, c.Update("u", 1, size(5)), c.Delete("d", 2))
	before := things(c)
	for _, token := range []string{"u", "d"} {
		if id, err := c.Create(token, "vm", size(3)); id != 0 || err != api.ErrState {
			t.Errorf("Create by %q = %d, %v, want 0, %v", token, id, err, api.ErrState)
		}
	}
	for _, token := range []string{"t1", "t2", "d"} {
		for _, id := range []int{1, 2} {
			if err := c.Update(token, id, size(3)); err != api.ErrState {
				t.Errorf("Update of %d by %q = %v, want %v", id, token, err, api.ErrState)
			}
		}
	}
	for _, token := range []string{"t1", "t2", "u"} {
		for _, id := range []int{1, 2} {
			if err := c.Delete(token, id); err != api.ErrState {
				t.Errorf("Delete of %d by %q = %v, want %v", id, token, err, api.ErrState)
			}
		}
	}
	has(t, c, 4+2+6+6, before)
	creates(t, c, "t1", 1, size(1)) // it still did what it did
}

// I2: tokens are told apart to the byte.
func TestTokensApart(t *testing.T) {
	c, _ := made(t, 12)
	for i, token := range []string{"a", "A", "a ", "", "\x00", "a\x00", strings.Repeat("a", 100000)} {
		creates(t, c, token, i+1, size(i))
		creates(t, c, token, i+1, size(i))
	}
	if n := len(c.All()); n != 7 {
		t.Errorf("there are %d things, want 7", n)
	}
}

// I2: a call for a thing that is not there is a call, and its token did nothing by it.
func TestNone(t *testing.T) {
	c, _ := with(t, 12, 1, 2)
	c.Lose(2)
	for i, id := range []int{2, 3, 0, -1, math.MinInt, math.MaxInt} {
		if err := c.Update("u", id, size(3)); err != api.ErrNone {
			t.Errorf("Update of %d = %v, want %v", id, err, api.ErrNone)
		}
		if err := c.Delete("d", id); err != api.ErrNone {
			t.Errorf("Delete of %d = %v, want %v", id, err, api.ErrNone)
		}
		if x, err := c.Read(id); thing(x) != thing(api.Thing{}) || err != api.ErrNone {
			t.Errorf("Read of %d = %v, %v, want nothing, %v", id, x, err, api.ErrNone)
		}
		has(t, c, 2+2*(i+1), "1 vm {size: 1}")
	}
	creates(t, c, "u", 3, size(4))
	good(t, c.Update("d", 3, size(5)))
	has(t, c, 16, "1 vm {size: 1}; 3 vm {size: 5}")
}

// I2, I3: the call of that number is refused, and no other; it is a call, and its token did nothing by it.
func TestFail(t *testing.T) {
	for n := range 6 {
		c, _ := made(t, 12)
		c.Fail(n)
		calls := 0
		for i := range 4 {
			if calls == n {
				if id, err := c.Create("t"+strconv.Itoa(i), "vm", size(i)); id != 0 || err != api.ErrBusy {
					t.Errorf("call %d = %d, %v, want 0, %v", n, id, err, api.ErrBusy)
				}
				calls++
			}
			creates(t, c, "t"+strconv.Itoa(i), i+1, size(i))
			calls++
		}
		has(t, c, calls, "1 vm {size: 0}; 2 vm {size: 1}; 3 vm {size: 2}; 4 vm {size: 3}")
	}
}

// I3: many may fail, in whatever order that is said; one that was is not, and one that failed does not fail again.
func TestFailMany(t *testing.T) {
	c, _ := with(t, 12, 1, 2)
	for _, n := range []int{5, 3, 0, 1, -1, math.MinInt, math.MaxInt, 3, 6} {
		c.Fail(n)
	}
	has(t, c, 2, "1 vm {size: 1}; 2 vm {size: 2}")
	for n, want := range []error{nil, api.ErrBusy, nil, api.ErrBusy, api.ErrBusy, nil, nil} {
		if err := c.Update("u"+strconv.Itoa(n), 1, size(10+n)); err != want {
			t.Errorf("call %d = %v, want %v", 2+n, err, want)
		}
	}
	has(t, c, 9, "1 vm {size: 16}; 2 vm {size: 2}")
	c.Fail(9)
	if err := c.Delete("d", 1); err != api.ErrBusy {
		t.Errorf("Delete = %v, want %v", err, api.ErrBusy)
	}
	good(t, c.Delete("d", 1))
	has(t, c, 11, "2 vm {size: 2}")
}

// I2: that a call fails is told ahead of what its token did, and of what is not there.
func TestBusyFirst(t *testing.T) {
	c, _ := with(t, 1, 1)
	for range 6 {
		c.Fail(c.Calls())
		var err error
		switch c.Calls() {
		case 1:
			_, err = c.Create("t1", "vm", size(1))
		case 2:
			_, err = c.Create("more", "vm", size(1))
		case 3:
			err = c.Update("t1", 1, size(1))
		case 4:
			err = c.Update("u", 9, size(1))
		case 5:
			err = c.Delete("t1", 1)
		case 6:
			err = c.Delete("d", 9)
		}
		if err != api.ErrBusy {
			t.Errorf("call %d = %v, want %v", c.Calls()-1, err, api.ErrBusy)
		}
	}
	has(t, c, 7, "1 vm {size: 1}")
	creates(t, c, "t1", 1, size(1))
}

// wrong attributes, with their error.
func wrong() []struct {
	v    api.Value
	want error
} {
	deep := num(1)
	for range api.MaxDeep - 1 {
		deep = list(deep)
	}
	wide := list()
	for range api.MaxParts - 1 {
		wide.L = append(wide.L, num(1))
	}
	return []struct {
		v    api.Value
		want error
	}{
		{api.Value{}, api.ErrKind},
		{num(1), api.ErrKind},
		{api.Value{Kind: api.Text, S: "x"}, api.ErrKind},
		{api.Value{Kind: api.Flag, N: 1}, api.ErrKind},
		{list(rec()), api.ErrKind},
		{list(endless()), api.ErrKind},
		{api.Value{Kind: 6, F: rec(field("a", num(1))).F}, api.ErrKind},
		{api.Value{Kind: -1}, api.ErrKind},
		{rec(field("a", deep)), api.ErrMany},
		{rec(field("a", wide)), api.ErrMany},
		{endless(), api.ErrMany},
		{rec(field("A", num(1))), api.ErrShape},
		{rec(field("a", num(api.MaxNumber+1))), api.ErrShape},
		{rec(field("b", num(1)), field("a", num(1))), api.ErrShape},
		{rec(field("a", num(1)), field("a", num(1))), api.ErrShape},
		{api.Value{Kind: api.Rec, N: 1}, api.ErrShape},
		{rec(field("a", api.Value{Kind: api.Text, S: strings.Repeat("x", api.MaxText+1)})), api.ErrShape},
	}
}

// I2, Z1, Z3: wrong attributes are told first, also of a disk that is down; they are no call and no step.
func TestWrongAttributes(t *testing.T) {
	for i, w := range wrong() {
		for _, down := range []bool{false, true} {
			c, d := with(t, 1, 5)
			c.Fail(1)
			if down {
				fell(t, d)
			}
			steps := d.Steps()
			for _, kind := range []string{"vm", "", "A"} {
				for _, token := range []string{"new", "t1"} {
					if id, err := c.Create(token, kind, w.v); id != 0 || err != w.want {
						t.Errorf("case %d: Create(%q, %q) = %d, %v, want 0, %v", i, token, kind, id, err, w.want)
					}
					for _, id := range []int{1, 2} {
						if err := c.Update(token, id, w.v); err != w.want {
							t.Errorf("case %d: Update(%q, %d) = %v, want %v", i, token, id, err, w.want)
						}
					}
				}
			}
			has(t, c, 1, "1 vm {size: 5}")
			if d.Steps() != steps {
				t.Errorf("case %d: %d steps, were %d", i, d.Steps(), steps)
			}
		}
	}
}

// I2: a kind is a name; what is none is told ahead of all that hangs on the disk and on calls.
func TestWrongKind(t *testing.T) {
	c, d := with(t, 1, 5)
	c.Fail(1)
	for _, down := range []bool{false, true} {
		for _, kind := range []string{"", "A", "vM", "9a", "a b", "a.b", "abcdefghijklm", "\xff", strings.Repeat("v", 100000)} {
			for _, token := range []string{"new", "t1"} {
				if id, err := c.Create(token, kind, size(1)); id != 0 || err != api.ErrShape {
					t.Errorf("Create(%q) of the kind %.20q = %d, %v, want 0, %v", token, kind, id, err, api.ErrShape)
				}
			}
		}
		if !down {
			fell(t, d)
		}
	}
	has(t, c, 1, "1 vm {size: 5}")
}

// I3
func TestRead(t *testing.T) {
	c, d := with(t, 12, 1, 2)
	for id := 1; id <= 2; id++ {
		x, err := c.Read(id)
		if want := strconv.Itoa(id) + " vm {size: " + strconv.Itoa(id) + "}"; thing(x) != want || err != nil {
			t.Errorf("Read(%d) = %s, %v, want %s", id, thing(x), err, want)
		}
	}
	if d.Steps() != 2 || c.Calls() != 2 {
		t.Errorf("behind Read: %d steps, %d calls", d.Steps(), c.Calls())
	}
}

// I3, W5: what others did is no call and no step, and is not remembered by a token.
func TestLose(t *testing.T) {
	c, d := with(t, 12, 1, 2, 3)
	for _, id := range []int{2, 2, 0, -1, 4, math.MaxInt} {
		c.Lose(id)
	}
	has(t, c, 3, "1 vm {size: 1}; 3 vm {size: 3}")
	if d.Steps() != 3 {
		t.Errorf("%d steps", d.Steps())
	}
	if _, err := c.Read(2); err != api.ErrNone {
		t.Errorf("Read of one that is lost = %v", err)
	}
	creates(t, c, "t2", 2, size(2)) // it did so once
	has(t, c, 4, "1 vm {size: 1}; 3 vm {size: 3}")
	creates(t, c, "new", 4, size(2))
	has(t, c, 5, "1 vm {size: 1}; 3 vm {size: 3}; 4 vm {size: 2}")
}

// I3, W5
func TestSpoil(t *testing.T) {
	c, d := with(t, 12, 1, 2)
	c.Spoil(2, rec(field("net", num(7))))
	has(t, c, 2, "1 vm {size: 1}; 2 vm {net: 7}")
	c.Spoil(1, rec())
	for _, id := range []int{0, -1, 3, math.MinInt} {
		c.Spoil(id, size(9))
	}
	for _, w := range wrong() {
		c.Spoil(1, w.v)
		c.Spoil(5, w.v)
	}
	has(t, c, 2, "1 vm {}; 2 vm {net: 7}")
	c.Lose(2)
	c.Spoil(2, size(9))
	has(t, c, 2, "1 vm {}")
	if d.Steps() != 2 {
		t.Errorf("%d steps", d.Steps())
	}
	good(t, c.Update("u", 1, size(1)))
	has(t, c, 3, "1 vm {size: 1}")
}

// Z2: what was handed in is neither written into nor kept.
func TestHandedInStays(t *testing.T) {
	c, _ := made(t, 12)
	v := rec(field("a", list(num(1))), field("b", rec(field("c", num(2)))))
	creates(t, c, "t", 1, v)
	creates(t, c, "u", 2, v)
	creates(t, c, "v", 3, v)
	good(t, c.Update("w", 2, v))
	c.Spoil(3, v)
	if s, err := value.Text(v); s != "{a: [1], b: {c: 2}}" || err != nil {
		t.Errorf("what was handed in is %s, %v", s, err)
	}
	spoilt(v)
	has(t, c, 4, "1 vm {a: [1], b: {c: 2}}; 2 vm {a: [1], b: {c: 2}}; 3 vm {a: [1], b: {c: 2}}")
}

// spoilt: a list, a record and the fields of such a value are written into.
func spoilt(v api.Value) {
	v.F[0].V.L[0] = num(99)
	v.F[1].V.F[0].Name = "z"
	v.F[0].Name = "zz"
	v.F[1] = field("mine", num(99))
}

// Z2: what comes out is the caller's.
func TestAnswersAreTheCallers(t *testing.T) {
	c, _ := made(t, 12)
	v := rec(field("a", list(num(1))), field("b", rec(field("c", num(2)))))
	creates(t, c, "t", 1, v)
	creates(t, c, "u", 2, v)
	const want = "1 vm {a: [1], b: {c: 2}}; 2 vm {a: [1], b: {c: 2}}"
	x, err := c.Read(1)
	good(t, err)
	y, err := c.Read(1)
	good(t, err)
	spoilt(x.Attrs)
	if thing(y) != "1 vm {a: [1], b: {c: 2}}" {
		t.Errorf("what was read twice is shared: %s", thing(y))
	}
	has(t, c, 2, want)
	all, again := c.All(), c.All()
	spoilt(all[0].Attrs)
	all[1].ID = 99
	if thing(all[1]) != "99 vm {a: [1], b: {c: 2}}" || thing(again[0])+"; "+thing(again[1]) != want {
		t.Errorf("All() is shared: %s; %s, %s", thing(all[1]), thing(again[0]), thing(again[1]))
	}
	has(t, c, 2, want)
}
