package locks_test

import (
	"math"
	"slices"
	"strconv"
	"strings"
	"testing"

	"wavewright/api"
	"wavewright/disk"
	"wavewright/locks"
)

func good(t *testing.T, errs ...error) {
	t.Helper()
	for i, err := range errs {
		if err != nil {
			t.Fatalf("deed %d: %v", i, err)
		}
	}
}

func all(int) bool { return true }

func nobody(int) bool { return false }

// but: all are alive but that one.
func but(dead int) func(int) bool { return func(n int) bool { return n != dead } }

// fell: the disk is down from here on.
func fell(t *testing.T, d *disk.Disk) {
	t.Helper()
	d.Arm(0)
	if err := d.Step(); err != api.ErrDown {
		t.Fatalf("Step() of an armed disk = %v", err)
	}
}

// with: a disk with these locks, each a name, '=' and what its file has, for good.
func with(t *testing.T, l ...string) *disk.Disk {
	t.Helper()
	d := disk.New()
	for _, x := range l {
		name, data, _ := strings.Cut(x, "=")
		good(t, d.Write("lock."+name, data))
	}
	good(t, d.Sync())
	return d
}

// files of a disk, each with '=' and its bytes, with blanks between.
func files(t *testing.T, d *disk.Disk) string {
	t.Helper()
	l, err := d.List()
	good(t, err)
	for i, name := range l {
		data, err := d.Read(name)
		good(t, err)
		l[i] = strings.TrimPrefix(name, "lock.") + "=" + data
	}
	return strings.Join(l, " ")
}

// has: are these the files, now and behind a fall?
func has(t *testing.T, d *disk.Disk, want string) {
	t.Helper()
	if got := files(t, d); got != want {
		t.Errorf("files: %s, want %s", got, want)
	}
	d.Restart(0, 0)
	if got := files(t, d); got != want {
		t.Errorf("kept: %s, want %s", got, want)
	}
}

func wrongNames() []string {
	return []string{"", "A", "0a", "a.b", "a b", "abcdefghijklm", "é", "web\n", strings.Repeat("a", 99)}
}

// J1
func TestOwner(t *testing.T) {
	d := with(t, "a=0", "b=1", "abcdefghijk0=3", "two=2")
	good(t, d.Write("none", "0"), d.Write("lock.nonea", "0"))
	cases := []struct {
		name string
		n    int
		had  bool
	}{{"a", 0, true}, {"b", 1, true}, {"two", 2, true}, {"abcdefghijk0", 3, true}, {"none", 0, false}, {"ab", 0, false}, {"lock", 0, false}}
	steps := d.Steps()
	for _, c := range cases {
		if n, had, err := locks.Owner(d, c.name); n != c.n || had != c.had || err != nil {
			t.Errorf("Owner(%q) = %d, %v, %v, want %d, %v", c.name, n, had, err, c.n, c.had)
		}
	}
	if d.Steps() != steps {
		t.Errorf("Owner made %d steps", d.Steps()-steps)
	}
}

func ownerWrong(t *testing.T, d *disk.Disk, name string, want error) {
	t.Helper()
	if n, had, err := locks.Owner(d, name); n != 0 || had || err != want {
		t.Errorf("Owner(%q) = %d, %v, %v, want nothing, %v", name, n, had, err, want)
	}
}

// J1, Z1, Z3
func TestOwnerWrong(t *testing.T) {
	for _, data := range []string{"", "4", "-1", "00", "01", "+1", " 1", "1 ", "1\n", "10", "x", "\x00", "\x01", "0 1", strings.Repeat("1", api.MaxData)} {
		ownerWrong(t, with(t, "a="+data), "a", api.ErrText)
	}
	d := with(t, "a=0", "b=x")
	for _, name := range wrongNames() {
		ownerWrong(t, d, name, api.ErrShape)
	}
	fell(t, d)
	for _, name := range []string{"a", "b", "none"} {
		ownerWrong(t, d, name, api.ErrDown)
	}
	ownerWrong(t, d, "A", api.ErrShape)
}

// J1
func TestIsOwner(t *testing.T) {
	for n, want := range map[int]bool{math.MinInt: false, -1: false, 0: true, 1: true, api.MaxOwners - 1: true, api.MaxOwners: false, math.MaxInt: false} {
		if got := locks.IsOwner(n); got != want {
			t.Errorf("IsOwner(%d) = %v", n, got)
		}
	}
}

// J1
func TestAll(t *testing.T) {
	d := disk.New()
	check := func(want ...string) {
		t.Helper()
		if l, err := locks.All(d); !slices.Equal(l, want) || err != nil {
			t.Errorf("All = %q, %v, want %q", l, err, want)
		}
	}
	check()
	for _, f := range []string{"a", "lock", "lock.", "lock.0a", "lock.a.b", "lock..a", "lock.abcdefghijklm", "locks.a", "state.a", "xlock.a", "journal"} {
		good(t, d.Write(f, "0"))
	}
	check()
	for _, f := range []string{"b", "web", "a0", "abcdefghijk0", "lock", "a"} {
		good(t, d.Write("lock."+f, []string{"0", "3", "x", ""}[len(f)%4])) // whatever it has
	}
	check("a", "a0", "abcdefghijk0", "b", "lock", "web")
	good(t, d.Remove("lock.b"))
	check("a", "a0", "abcdefghijk0", "lock", "web")
	l, err := locks.All(d)
	good(t, err)
	l[0] = "mine"
	_ = append(l[:1], "mine")
	check("a", "a0", "abcdefghijk0", "lock", "web")
	fell(t, d)
	if l, err := locks.All(d); len(l) != 0 || err != api.ErrDown {
		t.Errorf("All of a disk that is down = %q, %v", l, err)
	}
}

// J2: what is taken is had then, and kept.
func TestTake(t *testing.T) {
	cases := []struct {
		ahead []string
		who   int
		names []string
		alive func(int) bool
		want  string
	}{
		{nil, 0, []string{"a"}, all, "a=0"},
		{nil, 3, []string{"a"}, nobody, "a=3"},
		{nil, 1, []string{"web", "a", "net"}, all, "a=1 net=1 web=1"},
		{nil, 1, []string{"a", "b", "a", "a"}, all, "a=1 b=1"},
		{[]string{"a=2", "b=1"}, 2, []string{"a", "c"}, all, "a=2 b=1 c=2"},
		{[]string{"a=2"}, 2, []string{"a"}, nobody, "a=2"}, // it is its own, alive or not
		{[]string{"a=2"}, 2, []string{"a"}, all, "a=2"},
		{[]string{"a=1", "b=2", "c=3"}, 0, []string{"a"}, but(1), "a=0 b=2 c=3"},
		{[]string{"a=1", "b=1", "c=3"}, 3, []string{"c", "b", "a", "d"}, but(1), "a=3 b=3 c=3 d=3"},
		{[]string{"a=0", "b=1", "c=2"}, 3, []string{"a", "b", "c"}, nobody, "a=3 b=3 c=3"},
		{[]string{"x=bad", "y=1"}, 0, []string{"a"}, all, "a=0 x=bad y=1"}, // what is not named is not asked for
	}
	for _, c := range cases {
		d := with(t, c.ahead...)
		names := slices.Clone(c.names)
		if err := locks.Take(d, c.who, names, c.alive); err != nil {
			t.Errorf("Take(%d, %q) of %q = %v", c.who, c.names, c.ahead, err)
		}
		has(t, d, c.want)
		if !slices.Equal(names, c.names) {
			t.Errorf("Take: the names that were handed in are %q", names)
		}
	}
}

// J2: what is there, but not kept yet, is kept as well.
func TestTakeKeepsWhatItHas(t *testing.T) {
	d := disk.New()
	good(t, d.Write("lock.a", "1"), locks.Take(d, 1, []string{"a"}, all))
	has(t, d, "a=1")
}

// J2: the function is asked of owners' numbers alone, and of others.
func TestAliveIsAskedOfOthers(t *testing.T) {
	d := with(t, "a=0", "b=1", "c=2", "d=3", "e=1")
	var asked []int
	good(t, locks.Take(d, 2, []string{"e", "c", "a", "none", "d", "b", "b"}, func(n int) bool {
		asked = append(asked, n)
		return false
	}))
	if !slices.Equal(asked, []int{0, 1, 3, 1}) {
		t.Errorf("asked of %v", asked)
	}
	has(t, d, "a=2 b=2 c=2 d=2 e=2 none=2")
}

// refused: with an error nothing is changed, nor a step made.
func refused(t *testing.T, d *disk.Disk, what string, do func() error, want error) {
	t.Helper()
	ahead, steps := files(t, d), d.Steps()
	if err := do(); err != want {
		t.Errorf("%s = %v, want %v", what, err, want)
	}
	if d.Steps() != steps {
		t.Errorf("%s, refused: %d steps", what, d.Steps()-steps)
	}
	has(t, d, ahead)
}

// J2, W6, Z3: of the names, rising, the first error.
func TestTakeWrong(t *testing.T) {
	cases := []struct {
		who   int
		names []string
		alive func(int) bool
		want  error
	}{
		{-1, []string{"free"}, all, api.ErrBound}, {api.MaxOwners, []string{"free"}, all, api.ErrBound}, {math.MinInt, nil, all, api.ErrBound}, {math.MaxInt, []string{""}, all, api.ErrBound},
		{0, []string{"one"}, all, api.ErrHeld}, {0, []string{"one"}, but(2), api.ErrHeld}, {2, []string{"free", "two", "one"}, all, api.ErrHeld}, {3, []string{"a", "b", "two"}, but(1), api.ErrHeld},
		{0, []string{"bad"}, all, api.ErrText}, {0, []string{"free", "bad"}, nobody, api.ErrText},
		{0, []string{""}, all, api.ErrShape}, {0, []string{"free", "A"}, all, api.ErrShape}, {0, []string{"free", "free.x"}, all, api.ErrShape},
		// bad, free, one, two, zz.z: as they rise, not as they stand
		{0, []string{"one", "bad"}, all, api.ErrText}, {0, []string{"two", "one", "bad"}, all, api.ErrText}, {0, []string{"one", "zz.z"}, all, api.ErrHeld}, {0, []string{"zz.z", "one"}, all, api.ErrHeld},
		{0, []string{"one", "a.a"}, all, api.ErrShape}, {0, []string{"bad", ""}, all, api.ErrShape}, {0, []string{"bad", "A"}, all, api.ErrShape}, {0, []string{"zz.z", "bad"}, all, api.ErrText},
		{0, []string{"one", "zz.z"}, but(1), api.ErrShape}, {0, []string{"one", "two"}, but(1), api.ErrHeld}, {0, []string{"two", "one"}, but(2), api.ErrHeld},
	}
	for _, c := range cases {
		d := with(t, "one=1", "two=2", "bad=x")
		refused(t, d, "Take("+strconv.Itoa(c.who)+", "+strings.Join(c.names, ", ")+")", func() error { return locks.Take(d, c.who, c.names, c.alive) }, c.want)
	}
	for _, name := range wrongNames() {
		d := disk.New()
		refused(t, d, "Take of "+name, func() error { return locks.Take(d, 0, []string{name}, all) }, api.ErrShape)
		refused(t, d, "Give of "+name, func() error { return locks.Give(d, 0, []string{name}) }, api.ErrShape)
	}
}

// full: a disk with these locks, and so many files in all.
func full(t *testing.T, files int, l ...string) *disk.Disk {
	t.Helper()
	d := with(t, l...)
	for i := range files - len(l) {
		good(t, d.Write("f"+strconv.Itoa(i), ""))
	}
	good(t, d.Sync())
	return d
}

// J2, Z1: if there is no room for all of the locks, none is taken.
func TestTakeWithoutRoom(t *testing.T) {
	cases := []struct {
		files int
		names []string
		want  error
	}{
		{api.MaxFiles, []string{"a"}, api.ErrMany}, {api.MaxFiles - 1, []string{"a", "b"}, api.ErrMany}, {api.MaxFiles - 1, []string{"a", "dead", "own", "z"}, api.ErrMany}, {api.MaxFiles - 1, []string{"dead", "zz", "zzz"}, api.ErrMany},
		{api.MaxFiles, []string{"dead", "own"}, nil}, {api.MaxFiles - 1, []string{"own", "z", "dead", "z"}, nil}, {api.MaxFiles - 2, []string{"b", "a"}, nil},
		{api.MaxFiles, []string{"a", "held"}, api.ErrHeld}, {api.MaxFiles, []string{"a", "."}, api.ErrShape},
	}
	for _, c := range cases {
		d := full(t, c.files, "dead=2", "own=0", "held=1")
		if c.want != nil {
			refused(t, d, "Take of "+strings.Join(c.names, ", "), func() error { return locks.Take(d, 0, c.names, but(2)) }, c.want)
			continue
		}
		good(t, locks.Take(d, 0, c.names, but(2)))
		for _, name := range c.names {
			if n, had, err := locks.Owner(d, name); n != 0 || !had || err != nil {
				t.Errorf("Owner(%q) = %d, %v, %v", name, n, had, err)
			}
		}
	}
	var many []string
	for i := range 5000 {
		many = append(many, "n"+strconv.Itoa(i))
	}
	d := disk.New()
	refused(t, d, "Take of very many", func() error { return locks.Take(d, 0, many, all) }, api.ErrMany)
	good(t, locks.Take(d, 0, many[:api.MaxFiles], all))
	if l, err := locks.All(d); len(l) != api.MaxFiles || err != nil {
		t.Errorf("All: %d, %v", len(l), err)
	}
}

// J2: what is given back is no more, and that is kept; what others have stays.
func TestGive(t *testing.T) {
	cases := []struct {
		who   int
		names []string
		want  string
	}{
		{0, []string{"a"}, "b=0 c=1 d=3"}, {0, []string{"b", "a"}, "c=1 d=3"}, {0, []string{"a", "a", "b", "a"}, "c=1 d=3"}, {0, []string{"c", "a", "none", "d"}, "b=0 c=1 d=3"},
		{1, []string{"a", "b", "c"}, "a=0 b=0 d=3"}, {2, []string{"a", "b", "c", "d"}, "a=0 b=0 c=1 d=3"}, {3, []string{"none"}, "a=0 b=0 c=1 d=3"}, {3, []string{"d"}, "a=0 b=0 c=1"},
	}
	for _, c := range cases {
		d := with(t, "a=0", "b=0", "c=1", "d=3")
		names := slices.Clone(c.names)
		if err := locks.Give(d, c.who, names); err != nil {
			t.Errorf("Give(%d, %q) = %v", c.who, c.names, err)
		}
		has(t, d, c.want)
		if !slices.Equal(names, c.names) {
			t.Errorf("Give: the names that were handed in are %q", names)
		}
	}
}

// J2, Z3: of the names, in order, the first error.
func TestGiveWrong(t *testing.T) {
	cases := []struct {
		who   int
		names []string
		want  error
	}{
		{-1, []string{"a"}, api.ErrBound}, {api.MaxOwners, []string{"a"}, api.ErrBound}, {math.MaxInt, nil, api.ErrBound}, {math.MinInt, []string{""}, api.ErrBound},
		{0, []string{"a", ""}, api.ErrShape}, {0, []string{"a", "bad"}, api.ErrText}, {0, []string{"b", "a", "A", "bad"}, api.ErrShape}, {0, []string{"b", "a", "bad", "A"}, api.ErrText}, {0, []string{"zz.z", "bad"}, api.ErrShape},
	}
	for _, c := range cases {
		d := with(t, "a=0", "b=0", "bad=9")
		refused(t, d, "Give("+strconv.Itoa(c.who)+", "+strings.Join(c.names, ", ")+")", func() error { return locks.Give(d, c.who, c.names) }, c.want)
	}
}

// J2: of no names nothing is done, also while the disk is down; what who is, is asked for.
func TestNoNames(t *testing.T) {
	d := with(t, "a=0")
	good(t, d.Write("x", "not kept"))
	steps := d.Steps()
	for range 2 {
		for _, names := range [][]string{nil, {}} {
			good(t, locks.Take(d, 0, names, all), locks.Give(d, 0, names))
			if a, b := locks.Take(d, -1, names, all), locks.Give(d, 4, names); a != api.ErrBound || b != api.ErrBound {
				t.Errorf("Take = %v, Give = %v, want %v", a, b, api.ErrBound)
			}
		}
		if d.Steps() != steps {
			t.Errorf("%d steps", d.Steps()-steps)
		}
		fell(t, d)
	}
	d.Restart(0, 0)
	has(t, d, "a=0")
}
