package walog_test

import (
	"slices"
	"strconv"
	"strings"
	"testing"

	"wavewright/api"
	"wavewright/disk"
	"wavewright/value"
	"wavewright/walog"
)

func good(t *testing.T, errs ...error) {
	t.Helper()
	for i, err := range errs {
		if err != nil {
			t.Fatalf("deed %d: %v", i, err)
		}
	}
}

func opened(t *testing.T, d *disk.Disk) *walog.Log {
	t.Helper()
	l, err := walog.Open(d, "log")
	if l == nil || err != nil {
		t.Fatalf("Open = %v, %v, want a log", l, err)
	}
	return l
}

// with: a disk whose file log has these bytes, for good.
func with(t *testing.T, data string) *disk.Disk {
	t.Helper()
	d := disk.New()
	good(t, d.Write("log", data), d.Sync())
	return d
}

// full: a disk with as many files as there may be, and no log among them.
func full(t *testing.T) *disk.Disk {
	t.Helper()
	d := disk.New()
	for i := range api.MaxFiles {
		good(t, d.Write("f"+strconv.Itoa(i), ""))
	}
	return d
}

// frames of records, by the words.
func frames(records ...string) string {
	s := ""
	for _, r := range records {
		sum := value.Sum(r)
		s += string([]byte{byte(len(r)), byte(len(r) >> 8), byte(sum), byte(sum >> 8), byte(sum >> 16), byte(sum >> 24)}) + r
	}
	return s
}

// has: has the log just these records, in its memory and in its file?
func has(t *testing.T, d *disk.Disk, l *walog.Log, records ...string) {
	t.Helper()
	if got := l.Records(); !slices.Equal(got, records) {
		t.Errorf("Records() = %.80q, want %.80q", got, records)
	}
	if want := len(frames(records...)); l.Size() != want {
		t.Errorf("Size() = %d, want %d", l.Size(), want)
	}
	data, err := d.Read("log")
	if data != frames(records...) || err != nil && !(err == api.ErrNone && len(records) == 0) {
		t.Errorf("the file has %.80q, %v, want %.80q", data, err, frames(records...))
	}
}

// H1: the bytes, written out.
func TestFrameBytes(t *testing.T) {
	d := disk.New()
	l := opened(t, d)
	long := strings.Repeat("x", 300)
	good(t, l.Add(""), l.Add("a"), l.Add("foobar"), l.Add(long))
	want := "\x00\x00\x25\x23\x22\x84" + "\x01\x00\x8c\xec\x01\x86a" + "\x06\x00\xe8\x67\x39\xf7foobar" + "\x2c\x01"
	data, err := d.Read("log")
	if !strings.HasPrefix(data, want) || !strings.HasSuffix(data, long) || len(data) != len(want)+4+300 || err != nil {
		t.Errorf("the file has %q, %v, want %q and so on", data, err, want)
	}
	has(t, d, opened(t, d), "", "a", "foobar", long)
}

// H1, H2, W7: what is added is read again.
func TestAddAndOpen(t *testing.T) {
	d := disk.New()
	l := opened(t, d)
	has(t, d, l)
	if _, err := d.Read("log"); err != api.ErrNone || d.Steps() != 0 {
		t.Errorf("a log that was opened alone: Read = %v, %d steps", err, d.Steps())
	}
	records := []string{"deploy a b", "", "commit a", "\x00\xff\n\x00", strings.Repeat("m", api.MaxRecord), "commit a"}
	for i, r := range records {
		good(t, l.Add(r))
		has(t, d, l, records[:i+1]...)
		if d.Steps() != 2*i+2 {
			t.Errorf("%d steps behind %d records", d.Steps(), i+1)
		}
		d.Restart(0, 0) // it is kept
		has(t, d, opened(t, d), records[:i+1]...)
	}
	good(t, opened(t, d).Add("more"))
	has(t, d, opened(t, d), append(records, "more")...)
}

// H1: two logs of one disk have nothing in common.
func TestLogsByName(t *testing.T) {
	d := disk.New()
	l := opened(t, d)
	other, err := walog.Open(d, "other")
	good(t, err, l.Add("one"), other.Add("two"), other.Add("three"))
	has(t, d, l, "one")
	good(t, l.Clear())
	if got := other.Records(); !slices.Equal(got, []string{"two", "three"}) {
		t.Errorf("Records() = %q", got)
	}
}

// torn: bytes that are no record that is whole, each for a reason of its own.
func torn() map[string]string {
	whole, long := frames("abc"), strings.Repeat("x", api.MaxRecord+1)
	broken := map[string]string{
		"too long":                   frames(long),
		"too long, not there":        frames(long)[:6],
		"as long as can be":          "\xff\xff" + whole[2:],
		"high byte of the count":     "\x03\x01" + whole[2:],
		"count too low":              "\x02\x00" + whole[2:],
		"count too high":             "\x04\x00" + whole[2:],
		"another record's sum":       whole[:6] + "abd",
		"zeros":                      strings.Repeat("\x00", 12),
		"a long one without its end": frames(long[1:])[:405],
		"text":                       "no record is here",
	}
	for i := 1; i < len(whole); i++ {
		broken["the first "+strconv.Itoa(i)] = whole[:i]
	}
	for i := 2; i < len(whole); i++ {
		b := []byte(whole)
		b[i] ^= 128
		broken["turned at "+strconv.Itoa(i)] = string(b)
	}
	return broken
}

// H1: bytes behind the records that are whole are cut off, for good, whatever stands behind them.
func TestCutOff(t *testing.T) {
	for what, broken := range torn() {
		for _, ahead := range [][]string{nil, {"one"}, {"", "two", strings.Repeat("3", api.MaxRecord)}} {
			for _, behind := range []string{"", frames("lost")} {
				if len(broken) < 9 && behind != "" {
					continue // what is behind would be taken for the rest of it
				}
				d := with(t, frames(ahead...)+broken+behind)
				steps := d.Steps()
				l, err := walog.Open(d, "log")
				if l == nil || err != nil {
					t.Fatalf("%s: Open = %v, %v", what, l, err)
				}
				has(t, d, l, ahead...)
				if d.Steps() != steps+2 {
					t.Errorf("%s: %d steps, want 2", what, d.Steps()-steps)
				}
				d.Restart(0, 0)
				has(t, d, opened(t, d), ahead...)
				good(t, l.Add("next"))
				has(t, d, opened(t, d), append(slices.Clone(ahead), "next")...)
			}
		}
	}
}

// H1: a log without anything to be cut off is opened without a step, also the greatest.
func TestOpenWhole(t *testing.T) {
	records := slices.Repeat([]string{strings.Repeat("r", api.MaxRecord)}, 9)
	records = append(records, strings.Repeat("s", api.MaxData-9*(api.MaxRecord+6)-6))
	for _, l := range [][]string{nil, {""}, {"a"}, {strings.Repeat("x", api.MaxRecord)}, records, slices.Repeat([]string{""}, api.MaxData/6)} {
		d := with(t, frames(l...))
		d.Arm(0)
		has(t, d, opened(t, d), l...)
		if d.Down() {
			t.Error("down: opening took a step")
		}
	}
}

// H1, Z1, Z3
func TestOpenWrong(t *testing.T) {
	for _, name := range []string{"", "A", "a b", "log/", strings.Repeat("l", 2*api.MaxName+1), "é"} {
		d := disk.New()
		for range 2 { // also while it is down
			if l, err := walog.Open(d, name); l != nil || err != api.ErrShape {
				t.Errorf("Open(%q) = %v, %v, want none, %v", name, l, err, api.ErrShape)
			}
			d.Arm(0)
			_ = d.Step()
		}
	}
	for _, data := range []string{"", frames("a"), "torn"} {
		d := with(t, data)
		d.Arm(0)
		_ = d.Step()
		if l, err := walog.Open(d, "log"); l != nil || err != api.ErrDown {
			t.Errorf("Open of a disk that is down = %v, %v", l, err)
		}
	}
	for steps := range 2 { // it falls at Write, and at Sync
		d := with(t, frames("a")+"torn")
		d.Arm(steps)
		if l, err := walog.Open(d, "log"); l != nil || err != api.ErrDown || !d.Down() {
			t.Errorf("Open with %d steps left = %v, %v", steps, l, err)
		}
		d.Restart(0, 0)
		if data, err := d.Read("log"); data != frames("a")+"torn" || err != nil {
			t.Errorf("the file has %q, %v", data, err)
		}
		has(t, d, opened(t, d), "a")
	}
}

// H2
func TestAddTooMuch(t *testing.T) {
	d := disk.New()
	l := opened(t, d)
	wrong := func(s string, records ...string) {
		t.Helper()
		steps := d.Steps()
		if err := l.Add(s); err != api.ErrMany {
			t.Errorf("Add of %d bytes to %d = %v, want %v", len(s), l.Size(), err, api.ErrMany)
		}
		if d.Steps() != steps {
			t.Errorf("Add of too much took a step")
		}
		has(t, d, l, records...)
	}
	most := strings.Repeat("x", api.MaxRecord)
	wrong(most + "x")
	wrong(strings.Repeat("x", api.MaxData))
	wrong(strings.Repeat("x", 1<<16)) // as many as none, in two bytes
	records := slices.Repeat([]string{most}, 9)
	for _, r := range records {
		good(t, l.Add(r))
	}
	room := api.MaxData - l.Size() - 6
	wrong(most[:room+1], records...)
	wrong(most, records...)
	good(t, l.Add(most[:room-6]), l.Add(""))
	records = append(records, most[:room-6], "")
	has(t, d, l, records...)
	if l.Size() != api.MaxData {
		t.Errorf("Size() = %d, want %d", l.Size(), api.MaxData)
	}
	wrong("", records...)
	wrong("x", records...)
	good(t, l.Clear(), l.Add(most))
	has(t, d, opened(t, d), most)
}

// H2: with the disk's errors nothing was added.
func TestAddErrors(t *testing.T) {
	d := full(t)
	l := opened(t, d)
	if err := l.Add("x"); err != api.ErrMany {
		t.Errorf("Add without room for a file = %v", err)
	}
	has(t, d, l)
	for steps := range 2 {
		d = with(t, frames("a"))
		l = opened(t, d)
		d.Arm(steps)
		for range 2 {
			if err := l.Add("b"); err != api.ErrDown {
				t.Errorf("Add with %d steps left = %v", steps, err)
			}
			if got := l.Records(); !slices.Equal(got, []string{"a"}) || l.Size() != 7 {
				t.Errorf("Records() = %q, Size() = %d behind an error", got, l.Size())
			}
		}
		if err := l.Add(strings.Repeat("b", api.MaxRecord+1)); err != api.ErrMany {
			t.Errorf("Add of too much to a disk that is down = %v", err)
		}
	}
}

// H2
func TestClear(t *testing.T) {
	for _, records := range [][]string{nil, {"a"}, {"a", "", "c"}} {
		d := with(t, frames(records...))
		l := opened(t, d)
		steps := d.Steps()
		good(t, l.Clear())
		if d.Steps() != steps+2 {
			t.Errorf("Clear: %d steps, want 2", d.Steps()-steps)
		}
		has(t, d, l)
		d.Restart(0, 0)
		has(t, d, opened(t, d))
		good(t, l.Add("new"))
		has(t, d, opened(t, d), "new")
	}
	d := disk.New()
	good(t, opened(t, d).Clear())
	if data, err := d.Read("log"); data != "" || err != nil {
		t.Errorf("a log without a file, cleared: %q, %v", data, err)
	}
}

// H2
func TestClearErrors(t *testing.T) {
	l := opened(t, full(t))
	if err := l.Clear(); err != api.ErrMany {
		t.Errorf("Clear without room for a file = %v", err)
	}
	for steps := range 2 {
		d := with(t, frames("a", "b"))
		l := opened(t, d)
		d.Arm(steps)
		if err := l.Clear(); err != api.ErrDown {
			t.Errorf("Clear with %d steps left = %v", steps, err)
		}
		if got := l.Records(); !slices.Equal(got, []string{"a", "b"}) || l.Size() != 14 {
			t.Errorf("Records() = %q, Size() = %d behind an error", got, l.Size())
		}
		d.Restart(0, 9)
		has(t, d, opened(t, d), "a", "b")
	}
}

// Z2
func TestRecordsAreTheCallers(t *testing.T) {
	d := disk.New()
	l := opened(t, d)
	good(t, l.Add("a"), l.Add("b"), l.Add("c"))
	mine := l.Records()
	mine[0] = "mine"
	_ = append(mine[:1], "x", "y", "z")
	has(t, d, l, "a", "b", "c")
	mine = l.Records()
	good(t, l.Add("d"))
	_ = append(mine, "mine")
	has(t, d, l, "a", "b", "c", "d")
}
