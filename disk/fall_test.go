package disk_test

import (
	"fmt"
	"math"
	"testing"

	"wavewright/api"
	"wavewright/disk"
)

// deeds, each of which is a step.
func steps() []deed {
	return []deed{
		{"Step", func(d *disk.Disk) error { return d.Step() }, nil},
		{"Sync", func(d *disk.Disk) error { return d.Sync() }, nil},
		{"Write", func(d *disk.Disk) error { return d.Write("a", "x") }, nil},
		{"Append", func(d *disk.Disk) error { return d.Append("a", "x") }, nil},
		{"Make", func(d *disk.Disk) error { return d.Make("c", "x") }, nil},
		{"Move", func(d *disk.Disk) error { return d.Move("a", "b") }, nil},
		{"Move onto itself", func(d *disk.Disk) error { return d.Move("a", "a") }, nil},
		{"Remove", func(d *disk.Disk) error { return d.Remove("a") }, nil},
	}
}

// G2, G3: each of these is a step, at which the disk falls if none is left; then nothing is done.
func TestFallAtAnyStep(t *testing.T) {
	for _, c := range steps() {
		d := with(t, "a", "1", "b", "2")
		ahead := d.Steps()
		good(t, c.do(d))
		if d.Steps() != ahead+1 || d.Down() {
			t.Errorf("%s: Steps() = %d, was %d, Down() = %v", c.what, d.Steps(), ahead, d.Down())
		}
		d = with(t, "a", "1", "b", "2")
		for _, n := range []int{0, -1, 3} { // it is down, whatever it is armed with then
			d.Arm(n)
			if err := c.do(d); err != api.ErrDown || !d.Down() || d.Steps() != ahead {
				t.Errorf("%s, behind Arm(%d): %v, Down() = %v, Steps() = %d, was %d", c.what, n, err, d.Down(), d.Steps(), ahead)
			}
		}
		if data, err := d.Read("a"); data != "" || err != api.ErrDown {
			t.Errorf("Read = %q, %v", data, err)
		}
		if l, err := d.List(); len(l) > 0 || err != api.ErrDown {
			t.Errorf("List = %q, %v", l, err)
		}
		d.Restart(9, 9)
		has(t, d, "a", "1", "b", "2")
	}
}

// G3
func TestArm(t *testing.T) {
	for _, n := range []int{0, 1, 2, 7} {
		d := disk.New()
		d.Arm(n)
		for range n {
			good(t, d.Step())
		}
		if d.Down() {
			t.Errorf("Arm(%d): down behind as many steps", n)
		}
		for range 3 {
			if err := d.Step(); err != api.ErrDown || !d.Down() || d.Steps() != n {
				t.Errorf("Arm(%d): Step() = %v, Down() = %v, Steps() = %d", n, err, d.Down(), d.Steps())
			}
		}
	}
	d := disk.New()
	d.Arm(1)
	d.Arm(3) // the last one holds
	good(t, d.Step(), d.Step(), d.Step())
	for _, n := range []int{-1, math.MinInt, math.MaxInt} {
		d.Arm(n)
		good(t, d.Step(), d.Step())
	}
	if d.Steps() != 9 {
		t.Errorf("Steps() = %d, want 9", d.Steps())
	}
}

// G3: reading is no step.
func TestReadIsNoStep(t *testing.T) {
	d := with(t, "a", "1")
	d.Arm(0)
	has(t, d, "a", "1")
	if d.Down() || d.Steps() != 2 {
		t.Errorf("Down() = %v, Steps() = %d", d.Down(), d.Steps())
	}
}

// changed: a disk with files that are kept, and these changes, that are not: a and b have other bytes, c is made, d takes a's place, and e goes.
func changed(t *testing.T) *disk.Disk {
	d := with(t, "a", "11", "b", "22", "e", "55")
	good(t, d.Write("a", "abc"), d.Append("b", "def"), d.Make("c", "ghi"), d.Move("a", "d"), d.Remove("e"))
	return d
}

// G4
func TestRestart(t *testing.T) {
	cases := []struct {
		keep, torn int
		files      []string
	}{
		{0, 0, []string{"a", "11", "b", "22", "e", "55"}},
		{-1, -1, []string{"a", "11", "b", "22", "e", "55"}}, {math.MinInt, math.MinInt, []string{"a", "11", "b", "22", "e", "55"}},
		{-1, 2, []string{"a", "ab", "b", "22", "e", "55"}},
		{0, 1, []string{"a", "a", "b", "22", "e", "55"}}, {0, 3, []string{"a", "abc", "b", "22", "e", "55"}},
		{0, 4, []string{"a", "abc", "b", "22", "e", "55"}}, {0, math.MaxInt, []string{"a", "abc", "b", "22", "e", "55"}},
		{1, 0, []string{"a", "abc", "b", "22", "e", "55"}}, {1, -1, []string{"a", "abc", "b", "22", "e", "55"}},
		{1, 2, []string{"a", "abc", "b", "22de", "e", "55"}}, {1, 9, []string{"a", "abc", "b", "22def", "e", "55"}},
		{2, 0, []string{"a", "abc", "b", "22def", "e", "55"}},
		{2, 1, []string{"a", "abc", "b", "22def", "c", "g", "e", "55"}}, {2, 3, []string{"a", "abc", "b", "22def", "c", "ghi", "e", "55"}},
		{3, 0, []string{"a", "abc", "b", "22def", "c", "ghi", "e", "55"}}, {3, 9, []string{"a", "abc", "b", "22def", "c", "ghi", "e", "55"}},
		{4, 0, []string{"b", "22def", "c", "ghi", "d", "abc", "e", "55"}}, {4, 9, []string{"b", "22def", "c", "ghi", "d", "abc", "e", "55"}},
		{5, 0, []string{"b", "22def", "c", "ghi", "d", "abc"}}, {5, 9, []string{"b", "22def", "c", "ghi", "d", "abc"}},
		{6, 9, []string{"b", "22def", "c", "ghi", "d", "abc"}}, {math.MaxInt, math.MaxInt, []string{"b", "22def", "c", "ghi", "d", "abc"}},
	}
	for _, c := range cases {
		for _, down := range []bool{false, true} {
			d := changed(t)
			if down {
				fell(t, d)
			}
			d.Arm(0)
			ahead := d.Steps()
			d.Restart(c.keep, c.torn)
			has(t, d, c.files...)
			if d.Down() || d.Steps() != ahead {
				t.Errorf("Restart(%d, %d): Down() = %v, Steps() = %d, was %d", c.keep, c.torn, d.Down(), d.Steps(), ahead)
			}
			good(t, d.Step()) // it is not armed
			d.Restart(0, 0)   // and all that is there is kept
			has(t, d, c.files...)
		}
	}
}

// G3, G4: what was synced is kept, by each Sync, and changes count from there on.
func TestSyncKeeps(t *testing.T) {
	d := changed(t)
	good(t, d.Sync())
	d.Restart(0, 0)
	has(t, d, "b", "22def", "c", "ghi", "d", "abc")
	good(t, d.Write("b", "1"), d.Sync(), d.Append("b", "2"), d.Append("b", "3"))
	d.Restart(1, 0)
	has(t, d, "b", "12", "c", "ghi", "d", "abc")
	good(t, d.Remove("c"), d.Move("d", "b"), d.Sync(), d.Sync())
	d.Restart(0, 5)
	has(t, d, "b", "abc")
}

// G3, G4: a Sync at which it falls keeps nothing.
func TestFallAtSync(t *testing.T) {
	d := changed(t)
	d.Arm(0)
	if err := d.Sync(); err != api.ErrDown {
		t.Errorf("Sync() = %v", err)
	}
	d.Restart(0, 0)
	has(t, d, "a", "11", "b", "22", "e", "55")
}

// G2, G4: a Move onto itself is no change, and so is none that is kept; nor is a step by itself, nor what was wrong.
func TestNoChange(t *testing.T) {
	d := with(t, "a", "1")
	good(t, d.Move("a", "a"), d.Step(), d.Move("a", "a"))
	if err := d.Make("a", "9"); err != api.ErrExist {
		t.Errorf("Make = %v", err)
	}
	good(t, d.Append("a", "2"), d.Append("a", "3"))
	d.Restart(1, 0)
	has(t, d, "a", "12")
}

// G4: of one that writes no bytes none can be kept; as a whole it is.
func TestRestartWithoutBytes(t *testing.T) {
	for _, torn := range []int{-1, 0, 1, 9} {
		d := with(t, "a", "1")
		good(t, d.Write("a", ""))
		d.Restart(0, torn)
		has(t, d, "a", "1")
		good(t, d.Make("b", ""))
		d.Restart(0, torn)
		has(t, d, "a", "1")
		good(t, d.Write("a", ""), d.Make("b", ""))
		d.Restart(2, torn)
		has(t, d, "a", "", "b", "")
	}
}

// G4: what was lost is no more, so that there is room again, or none.
func TestRestartAndRoom(t *testing.T) {
	d := full(t)
	good(t, d.Remove("f0"), d.Make("new", ""))
	d.Restart(0, 0)
	if err := d.Make("new", ""); err != api.ErrMany {
		t.Errorf("Make = %v, want %v", err, api.ErrMany)
	}
	good(t, d.Remove("f0"), d.Make("new", "abc"))
	d.Restart(1, 0)
	good(t, d.Make("f0", "back"))
	if data, err := d.Read("f0"); data != "back" || err != nil {
		t.Errorf("Read = %q, %v", data, err)
	}
}

// dice: numbers that look drawn, the same each time.
type dice uint64

func (d *dice) below(n int) int {
	*d = *d*6364136223846793005 + 1442695040888963407
	return int(uint64(*d>>33) % uint64(n))
}

// plain: a disk by the words: all changes from its beginning on, of which the first ones are kept; its files are told by doing all of them.
type plain struct {
	changes     []func(map[string]string)
	writers     []func(int) func(map[string]string) // of each change: it, with so many bytes alone; nil: it writes none
	kept, steps int
	left        int
	down        bool
}

func (p *plain) files() map[string]string {
	files := map[string]string{}
	for _, c := range p.changes {
		c(files)
	}
	return files
}

func (p *plain) step() error {
	if p.down || p.left == 0 {
		p.down = true
		return api.ErrDown
	}
	p.left--
	p.steps++
	return nil
}

func (p *plain) change(c func(map[string]string), w func(int) func(map[string]string)) error {
	if err := p.step(); err != nil {
		return err
	}
	p.changes, p.writers = append(p.changes, c), append(p.writers, w)
	return nil
}

// write: on top of what the file has, or in its place.
func (p *plain) write(name, data string, on bool) error {
	first := func(n int) func(map[string]string) {
		return func(files map[string]string) {
			if !on {
				files[name] = ""
			}
			files[name] += data[:n]
		}
	}
	return p.change(first(len(data)), func(n int) func(map[string]string) {
		if n = min(n, len(data)); n < 1 {
			return nil
		}
		return first(n)
	})
}

func (p *plain) move(name, to string) error {
	if _, ok := p.files()[name]; !ok {
		return api.ErrNone
	}
	if name == to {
		return p.step()
	}
	return p.change(func(files map[string]string) {
		files[to] = files[name]
		delete(files, name)
	}, nil)
}

func (p *plain) remove(name string) error {
	if _, ok := p.files()[name]; !ok {
		return api.ErrNone
	}
	return p.change(func(files map[string]string) { delete(files, name) }, nil)
}

func (p *plain) make(name, data string) error {
	if _, ok := p.files()[name]; ok {
		return api.ErrExist
	}
	return p.write(name, data, false)
}

func (p *plain) sync() error {
	err := p.step()
	if err == nil {
		p.kept = len(p.changes)
	}
	return err
}

func (p *plain) restart(keep, torn int) {
	n := min(p.kept+max(keep, 0), len(p.changes))
	var part func(map[string]string)
	if n < len(p.changes) && p.writers[n] != nil {
		part = p.writers[n](torn)
	}
	p.changes, p.writers = p.changes[:n:n], p.writers[:n:n]
	if part != nil {
		p.changes, p.writers = append(p.changes, part), append(p.writers, nil)
	}
	p.kept, p.left, p.down = len(p.changes), -1, false
}

// G2 to G4: drawn deeds, held against the words.
func TestDrawn(t *testing.T) {
	die := dice(7)
	for range 400 {
		d, p := disk.New(), &plain{left: -1}
		story := ""
		for range 60 {
			name, to, data := string("abcd"[die.below(4)]), string("abcd"[die.below(4)]), "somebytes"[die.below(10):]
			var got, want error
			switch kind := die.below(16); kind {
			case 0, 1:
				got, want = d.Write(name, data), p.write(name, data, false)
			case 2, 3:
				got, want = d.Append(name, data), p.write(name, data, true)
			case 4:
				got, want = d.Make(name, data), p.make(name, data)
			case 5, 6:
				got, want = d.Move(name, to), p.move(name, to)
			case 7:
				got, want = d.Remove(name), p.remove(name)
			case 8:
				got, want = d.Sync(), p.sync()
			case 9:
				got, want = d.Step(), p.step()
			case 10:
				n := die.below(9) - 1
				d.Arm(n)
				p.left = n
			case 11, 12:
				keep, torn := die.below(7)-1, die.below(11)-1
				d.Restart(keep, torn)
				p.restart(keep, torn)
			}
			story += fmt.Sprintf("%s %s %q: %v; ", name, to, data, got)
			if got != want || !agree(d, p) {
				t.Fatalf("%s: want %v; %s, want %v", story, want, told(d), p.files())
			}
		}
	}
}

func agree(d *disk.Disk, p *plain) bool {
	if d.Down() != p.down || d.Steps() != p.steps {
		return false
	}
	if p.down {
		_, err := d.List()
		return err == api.ErrDown
	}
	files := p.files()
	names, err := d.List()
	if err != nil || len(names) != len(files) {
		return false
	}
	for name, data := range files {
		if got, err := d.Read(name); got != data || err != nil {
			return false
		}
	}
	return true
}
