package disk_test

import (
	"fmt"
	"slices"
	"strconv"
	"strings"
	"testing"

	"wavewright/api"
	"wavewright/disk"
)

// told: all that a disk tells of itself, its files in their order.
func told(d *disk.Disk) string {
	names, err := d.List()
	s := fmt.Sprint(err, d.Down(), d.Steps())
	for _, name := range names {
		data, err := d.Read(name)
		s += fmt.Sprintf(" %s=%q,%v", name, data, err)
	}
	return s
}

// has: are these the files, each with its bytes (name, bytes, name, bytes)?
func has(t *testing.T, d *disk.Disk, files ...string) {
	t.Helper()
	var names []string
	for i := 0; i < len(files); i += 2 {
		names = append(names, files[i])
		if data, err := d.Read(files[i]); data != files[i+1] || err != nil {
			t.Errorf("Read(%q) = %.80q, %v, want %.80q", files[i], data, err, files[i+1])
		}
	}
	slices.Sort(names)
	if l, err := d.List(); !slices.Equal(l, names) || err != nil {
		t.Errorf("List() = %q, %v, want %q", l, err, names)
	}
}

func good(t *testing.T, errs ...error) {
	t.Helper()
	for i, err := range errs {
		if err != nil {
			t.Fatalf("deed %d: %v", i, err)
		}
	}
}

// with: a disk whose files are kept (name, bytes, name, bytes).
func with(t *testing.T, files ...string) *disk.Disk {
	t.Helper()
	d := disk.New()
	for i := 0; i < len(files); i += 2 {
		good(t, d.Write(files[i], files[i+1]))
	}
	good(t, d.Sync())
	return d
}

// full: a disk with as many files as there may be, called f0, f1 ..
func full(t *testing.T) *disk.Disk {
	t.Helper()
	var files []string
	for i := range api.MaxFiles {
		files = append(files, "f"+strconv.Itoa(i), "x")
	}
	return with(t, files...)
}

// G1
func TestNew(t *testing.T) {
	d, other := disk.New(), disk.New()
	has(t, d)
	if d.Down() || d.Steps() != 0 {
		t.Errorf("a new disk: Down() = %v, Steps() = %d", d.Down(), d.Steps())
	}
	for range 1000 {
		good(t, d.Step())
	}
	good(t, d.Write("a", "x"))
	has(t, other)
	if other.Steps() != 0 {
		t.Errorf("another disk's steps are %d", other.Steps())
	}
}

// G1
func TestName(t *testing.T) {
	for _, s := range []string{"a", "z", "0", "9", ".", "..", "journal", "state.web", "lock.a1", strings.Repeat("m", 2*api.MaxName), "0123456789.abcdefghij.z."} {
		if !disk.Name(s) {
			t.Errorf("Name(%q) = false", s)
		}
	}
	for _, s := range []string{"", "A", "Z", "a b", " a", "a ", "a/b", "a-b", "a_b", "a:", "a@", "`a", "a{", "a\n", "\x00", "a\xff", "é", "aB", "Ba", strings.Repeat("m", 2*api.MaxName+1), strings.Repeat("m", 100000)} {
		if disk.Name(s) {
			t.Errorf("Name(%.80q) = true", s)
		}
	}
	for b := range 256 {
		want := 'a' <= b && b <= 'z' || '0' <= b && b <= '9' || b == '.'
		if got := disk.Name("a" + string([]byte{byte(b)})); got != want {
			t.Errorf("Name of a and the byte %d = %v", b, got)
		}
	}
}

// G2
func TestWriteAppendMake(t *testing.T) {
	d := disk.New()
	good(t, d.Write("b", "one"))
	has(t, d, "b", "one")
	good(t, d.Write("b", "2"), d.Append("b", "34"), d.Append("a", "new"), d.Make("c", "made"), d.Append("c", "."))
	has(t, d, "a", "new", "b", "234", "c", "made.")
	good(t, d.Write("a", ""), d.Append("b", ""), d.Append("d", ""), d.Make("e", ""), d.Write("f", "\x00\xff\n"))
	has(t, d, "a", "", "b", "234", "c", "made.", "d", "", "e", "", "f", "\x00\xff\n")
	if d.Steps() != 11 {
		t.Errorf("Steps() = %d, want 11", d.Steps())
	}
}

// G2
func TestMoveRemove(t *testing.T) {
	d := with(t, "a", "1", "b", "2", "c", "3")
	good(t, d.Move("a", "d"))
	has(t, d, "b", "2", "c", "3", "d", "1")
	good(t, d.Move("d", "b"))
	has(t, d, "b", "1", "c", "3")
	good(t, d.Move("b", "b"))
	has(t, d, "b", "1", "c", "3")
	good(t, d.Remove("c"))
	has(t, d, "b", "1")
	good(t, d.Remove("b"))
	has(t, d)
	good(t, d.Make("b", "again"))
	has(t, d, "b", "again")
	if d.Steps() != 10 {
		t.Errorf("Steps() = %d, want 10", d.Steps())
	}
}

// G2: names rise as bytes.
func TestListRises(t *testing.T) {
	d := with(t, "b", "", "a", "", "a.b", "", "ab", "", "a0", "", ".", "", "10", "", "9", "")
	want := []string{".", "10", "9", "a", "a.b", "a0", "ab", "b"}
	if l, err := d.List(); !slices.Equal(l, want) || err != nil {
		t.Errorf("List() = %q, %v, want %q", l, err, want)
	}
}

// What stands behind a text in files' names, if it is a name; rising.
func TestBehind(t *testing.T) {
	d := with(t, "s.b", "", "s.a", "", "s.a0", "", "s.", "", "s.0a", "", "s.a.b", "", "s.abcdefghijklm", "", "xs.a", "", "s", "", "sa", "", "a", "")
	for ahead, want := range map[string][]string{"s.": {"a", "a0", "b"}, "s": {"a"}, "": {"a", "s", "sa"}, "t.": nil, "s.a.": {"b"}, "\x00": nil} {
		if l, err := d.Behind(ahead); !slices.Equal(l, want) || err != nil {
			t.Errorf("Behind(%q) = %q, %v, want %q", ahead, l, err, want)
		}
	}
	fell(t, d)
	if l, err := d.Behind("s."); len(l) != 0 || err != api.ErrDown {
		t.Errorf("Behind of a disk that is down = %q, %v", l, err)
	}
}

// deed on a disk that has the file a ("1"), with the error that is wanted.
type deed struct {
	what string
	do   func(*disk.Disk) error
	want error
}

func wrongDeeds() []deed {
	long, most := strings.Repeat("x", api.MaxData+1), strings.Repeat("x", api.MaxData)
	name := strings.Repeat("n", 2*api.MaxName+1)
	return []deed{
		{"Write of no name", func(d *disk.Disk) error { return d.Write("", "x") }, api.ErrShape},
		{"Write of a wrong name", func(d *disk.Disk) error { return d.Write("A", "x") }, api.ErrShape},
		{"Write of a long name", func(d *disk.Disk) error { return d.Write(name, "x") }, api.ErrShape},
		{"Write of a wrong name, too much", func(d *disk.Disk) error { return d.Write("A", long) }, api.ErrShape},
		{"Write, too much", func(d *disk.Disk) error { return d.Write("b", long) }, api.ErrMany},
		{"Write of one that is there, too much", func(d *disk.Disk) error { return d.Write("a", long) }, api.ErrMany},
		{"Append of a wrong name", func(d *disk.Disk) error { return d.Append("a b", "x") }, api.ErrShape},
		{"Append of a wrong name, too much", func(d *disk.Disk) error { return d.Append("a b", long) }, api.ErrMany},
		{"Append of a wrong name, as much as may be", func(d *disk.Disk) error { return d.Append("a b", most) }, api.ErrShape},
		{"Append, too much", func(d *disk.Disk) error { return d.Append("b", long) }, api.ErrMany},
		{"Append, too much in all", func(d *disk.Disk) error { return d.Append("a", most) }, api.ErrMany},
		{"Make of a wrong name", func(d *disk.Disk) error { return d.Make("/", "x") }, api.ErrShape},
		{"Make of a wrong name, too much", func(d *disk.Disk) error { return d.Make("/", long) }, api.ErrShape},
		{"Make, too much", func(d *disk.Disk) error { return d.Make("b", long) }, api.ErrMany},
		{"Make of one that is there, too much", func(d *disk.Disk) error { return d.Make("a", long) }, api.ErrMany},
		{"Make of one that is there", func(d *disk.Disk) error { return d.Make("a", "1") }, api.ErrExist},
		{"Make of one that is there, as much as may be", func(d *disk.Disk) error { return d.Make("a", most) }, api.ErrExist},
		{"Move of a wrong name", func(d *disk.Disk) error { return d.Move("A", "b") }, api.ErrShape},
		{"Move to a wrong name", func(d *disk.Disk) error { return d.Move("a", "B") }, api.ErrShape},
		{"Move of none to a wrong name", func(d *disk.Disk) error { return d.Move("c", "") }, api.ErrShape},
		{"Move of a wrong name onto itself", func(d *disk.Disk) error { return d.Move("A", "A") }, api.ErrShape},
		{"Move of none", func(d *disk.Disk) error { return d.Move("c", "b") }, api.ErrNone},
		{"Move of none onto one", func(d *disk.Disk) error { return d.Move("c", "a") }, api.ErrNone},
		{"Move of none onto itself", func(d *disk.Disk) error { return d.Move("c", "c") }, api.ErrNone},
		{"Remove of none", func(d *disk.Disk) error { return d.Remove("c") }, api.ErrNone},
		{"Remove of a wrong name", func(d *disk.Disk) error { return d.Remove("A") }, api.ErrNone},
		{"Remove of no name", func(d *disk.Disk) error { return d.Remove("") }, api.ErrNone},
		{"Read of none", func(d *disk.Disk) error { _, err := d.Read("c"); return err }, api.ErrNone},
		{"Read of a wrong name", func(d *disk.Disk) error { _, err := d.Read("A"); return err }, api.ErrNone},
	}
}

// G2, Z1, Z3: what is wrong changes nothing, and is no step.
func TestWrong(t *testing.T) {
	for _, c := range wrongDeeds() {
		d := with(t, "a", "1")
		before := told(d)
		d.Arm(0)
		if err := c.do(d); err != c.want {
			t.Errorf("%s: %v, want %v", c.what, err, c.want)
		}
		if after := told(d); after != before {
			t.Errorf("%s: %s, was %s", c.what, after, before)
		}
	}
}

// G2: what is wrong is told ahead of the step's error; of Read that the disk is down is told first.
func TestWrongWhileDown(t *testing.T) {
	for _, c := range wrongDeeds() {
		d := with(t, "a", "1")
		fell(t, d)
		want := c.want
		if strings.HasPrefix(c.what, "Read") {
			want = api.ErrDown
		}
		if err := c.do(d); err != want {
			t.Errorf("%s, while it is down: %v, want %v", c.what, err, want)
		}
	}
}

// fell: it is down from here on.
func fell(t *testing.T, d *disk.Disk) {
	t.Helper()
	d.Arm(0)
	if err := d.Step(); err != api.ErrDown || !d.Down() {
		t.Fatalf("Step() of an armed disk = %v, Down() = %v", err, d.Down())
	}
}

// G2: what may be is done at the very bound.
func TestMostBytes(t *testing.T) {
	most := strings.Repeat("x", api.MaxData)
	d := disk.New()
	good(t, d.Write("a", most), d.Make("b", most), d.Append("c", most), d.Append("a", ""), d.Write("d", "y"), d.Append("d", most[1:]))
	has(t, d, "a", most, "b", most, "c", most, "d", "y"+most[1:])
	if err := d.Append("d", "z"); err != api.ErrMany {
		t.Errorf("Append to a file that has as many bytes as may be: %v", err)
	}
	good(t, d.Write("d", ""), d.Append("d", most))
	has(t, d, "a", most, "b", most, "c", most, "d", most)
}

// G2: one more file is too many, but for one that is there already.
func TestMostFiles(t *testing.T) {
	d := full(t)
	for _, c := range []deed{
		{"Write", func(d *disk.Disk) error { return d.Write("new", "x") }, api.ErrMany},
		{"Append", func(d *disk.Disk) error { return d.Append("new", "x") }, api.ErrMany},
		{"Make", func(d *disk.Disk) error { return d.Make("new", "x") }, api.ErrMany},
		{"Write of a wrong name", func(d *disk.Disk) error { return d.Write("NEW", "x") }, api.ErrShape},
		{"Append of a wrong name", func(d *disk.Disk) error { return d.Append("NEW", "x") }, api.ErrShape},
		{"Make of a wrong name", func(d *disk.Disk) error { return d.Make("NEW", "x") }, api.ErrShape},
		{"Make of one that is there", func(d *disk.Disk) error { return d.Make("f0", "x") }, api.ErrExist},
	} {
		before := told(d)
		if err := c.do(d); err != c.want {
			t.Errorf("%s beside all that may be: %v, want %v", c.what, err, c.want)
		}
		if after := told(d); after != before {
			t.Errorf("%s: %s, was %s", c.what, after, before)
		}
	}
	good(t, d.Write("f0", "y"), d.Append("f1", "y"), d.Move("f2", "new"), d.Remove("new"), d.Make("f2", "z"), d.Move("f2", "f3"), d.Append("f2", "last"))
	if err := d.Write("new", ""); err != api.ErrMany {
		t.Errorf("Write beside all that may be: %v", err)
	}
}

// G2: a file that was removed or written and not kept is told of as it is behind all changes, also while the disk is down.
func TestToldBehindAllChanges(t *testing.T) {
	d := with(t, "a", "1")
	good(t, d.Remove("a"), d.Make("b", "2"))
	fell(t, d)
	for _, c := range []deed{
		{"Remove of one that is no more", func(d *disk.Disk) error { return d.Remove("a") }, api.ErrNone},
		{"Remove", func(d *disk.Disk) error { return d.Remove("b") }, api.ErrDown},
		{"Make of one that is there", func(d *disk.Disk) error { return d.Make("b", "") }, api.ErrExist},
		{"Make", func(d *disk.Disk) error { return d.Make("a", "") }, api.ErrDown},
		{"Move of one that is no more", func(d *disk.Disk) error { return d.Move("a", "c") }, api.ErrNone},
		{"Move", func(d *disk.Disk) error { return d.Move("b", "c") }, api.ErrDown},
	} {
		if err := c.do(d); err != c.want {
			t.Errorf("%s: %v, want %v", c.what, err, c.want)
		}
	}
	d.Restart(0, 0)
	has(t, d, "a", "1")
}

// Z2: names that were listed are the caller's.
func TestAnswersAreTheCallers(t *testing.T) {
	d := with(t, "a", "1", "b", "2")
	l, err := d.List()
	good(t, err)
	for i := range l {
		l[i] = "mine"
	}
	_ = append(l[:0], "x", "y", "z")
	has(t, d, "a", "1", "b", "2")
}
