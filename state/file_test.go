package state_test

import (
	"slices"
	"strconv"
	"strings"
	"testing"

	"wavewright/api"
	"wavewright/disk"
	"wavewright/state"
)

func good(t *testing.T, errs ...error) {
	t.Helper()
	for i, err := range errs {
		if err != nil {
			t.Fatalf("deed %d: %v", i, err)
		}
	}
}

func told(t *testing.T, s api.State) string {
	t.Helper()
	x, err := state.Text(s)
	good(t, err)
	return x
}

// loads: is that the state of the stack?
func loads(t *testing.T, d *disk.Disk, name string, want api.State) {
	t.Helper()
	if s, err := state.Load(d, name); !same(s, want) || err != nil {
		t.Errorf("Load(%q) = %+v, %v, want %+v", name, s, err, want)
	}
}

// files of a disk, each with its bytes.
func files(t *testing.T, d *disk.Disk) []string {
	t.Helper()
	l, err := d.List()
	good(t, err)
	for i, name := range l {
		data, err := d.Read(name)
		good(t, err)
		l[i] = name + ": " + data
	}
	return l
}

// fell: the disk is down from here on.
func fell(t *testing.T, d *disk.Disk) {
	t.Helper()
	d.Arm(0)
	if err := d.Step(); err != api.ErrDown {
		t.Fatalf("Step() of an armed disk = %v", err)
	}
}

// K4: the file, what is read again, and that it is kept.
func TestSaveAndLoad(t *testing.T) {
	d := disk.New()
	for _, s := range []api.State{site(), {}, crowd(16, 8, 8), {Serial: 9}, sized(t, api.MaxData), site()} {
		good(t, state.Save(d, "web", s))
		loads(t, d, "web", s)
		for range 2 {
			if got, want := files(t, d), []string{"state.web: " + told(t, s)}; !slices.Equal(got, want) {
				t.Errorf("files: %q, want %q", got, want)
			}
			d.Restart(0, 0) // it is kept
		}
		loads(t, d, "web", s)
	}
}

// K4: each stack has a state of its own, whatever it is called.
func TestManyStacks(t *testing.T) {
	d := disk.New()
	all := []string{"a", "b", "web", "draft", "state", "new", "tmp", "temp", "save", "next", "journal", "lock", "abcdefghijk0"}
	for round := range 3 {
		for i, name := range all {
			good(t, state.Save(d, name, api.State{Serial: 100*round + i}))
		}
		for i, name := range all {
			loads(t, d, name, api.State{Serial: 100*round + i})
		}
		if l := files(t, d); len(l) != len(all) {
			t.Errorf("files: %q", l)
		}
		if l, err := state.All(d); !slices.Equal(l, slices.Sorted(slices.Values(all))) || err != nil {
			t.Errorf("All = %q, %v", l, err)
		}
	}
	fell(t, d)
	if l, err := state.All(d); len(l) != 0 || err != api.ErrDown {
		t.Errorf("All of a disk that is down = %q, %v", l, err)
	}
}

// K4: one that was never saved is empty, and stays so.
func TestLoadNone(t *testing.T) {
	d := disk.New()
	good(t, d.Write("web", "x"), d.Write("state", "x"), d.Write("state.webb", "x"))
	loads(t, d, "web", api.State{})
	if d.Steps() != 3 || len(files(t, d)) != 3 {
		t.Errorf("Load made %d steps, files: %q", d.Steps()-3, files(t, d))
	}
}

// wrongNames of stacks.
func wrongNames() []string {
	return []string{"", "A", "0a", "a.b", "a b", "abcdefghijklm", "é", "web\n", strings.Repeat("a", 99)}
}

// K4, Z1
func TestLoadWrong(t *testing.T) {
	d := disk.New()
	good(t, state.Save(d, "web", site()))
	wrong := func(name string, want error) {
		t.Helper()
		if s, err := state.Load(d, name); !isEmpty(s) || err != want {
			t.Errorf("Load(%q) = %+v, %v, want nothing, %v", name, s, err, want)
		}
	}
	for _, name := range wrongNames() {
		wrong(name, api.ErrShape)
	}
	for data, want := range map[string]error{"": api.ErrSum, told(t, site())[1:]: api.ErrSum, summed("x\n"): api.ErrText, summed("serial -1\n"): api.ErrText} {
		good(t, d.Write("state.bad", data))
		wrong("bad", want)
	}
	loads(t, d, "web", site())
	fell(t, d)
	wrong("web", api.ErrDown)
	wrong("none", api.ErrDown)
	wrong("bad", api.ErrDown)
	wrong("A", api.ErrShape)
}

// refused: with an error nothing is changed.
func refused(t *testing.T, d *disk.Disk, name string, s api.State, want error) {
	t.Helper()
	ahead, steps := files(t, d), d.Steps()
	if err := state.Save(d, name, s); err != want {
		t.Errorf("Save(%q) = %v, want %v", name, err, want)
	}
	if got := files(t, d); !slices.Equal(got, ahead) || d.Steps() != steps {
		t.Errorf("Save(%q), refused: %d steps, files %q, want %q", name, d.Steps()-steps, got, ahead)
	}
}

// K4, Z1, Z3: which error comes ahead of which.
func TestSaveWrong(t *testing.T) {
	bad, great := site(), sized(t, api.MaxData+1)
	bad.Held[0].ID = 0
	greatAndBad := great
	greatAndBad.Serial = -1
	d := disk.New()
	good(t, state.Save(d, "web", site()))
	for _, name := range wrongNames() {
		for _, s := range []api.State{{}, site(), bad, great} {
			refused(t, d, name, s, api.ErrShape)
		}
	}
	for _, name := range []string{"web", "other"} {
		refused(t, d, name, bad, api.ErrShape)
		refused(t, d, name, greatAndBad, api.ErrBound)
		refused(t, d, name, great, api.ErrMany)
	}
	loads(t, d, "web", site())
	fell(t, d)
	for _, c := range []struct {
		name string
		s    api.State
		want error
	}{{"A", site(), api.ErrShape}, {"web", bad, api.ErrShape}, {"web", great, api.ErrMany}, {"web", site(), api.ErrDown}, {"other", site(), api.ErrDown}} {
		if err := state.Save(d, c.name, c.s); err != c.want {
			t.Errorf("Save(%q) of a disk that is down = %v, want %v", c.name, err, c.want)
		}
	}
}

// K4: the disk's error, if there is no room for a file; with room for one there is room for a state.
func TestSaveWithoutRoom(t *testing.T) {
	d := disk.New()
	for i := range api.MaxFiles - 1 {
		good(t, d.Write("f"+strconv.Itoa(i), ""))
	}
	good(t, state.Save(d, "web", site()))
	loads(t, d, "web", site())
	refused(t, d, "other", site(), api.ErrMany)
	loads(t, d, "web", site())
	good(t, d.Remove("f0"), state.Save(d, "web", api.State{Serial: 8}))
	loads(t, d, "web", api.State{Serial: 8})
}

// K4, W3: behind a fall at any step, with anything kept, the file is as it was, or has the new text; saved again, it has that.
func TestFallInSave(t *testing.T) {
	elder, s := api.State{Serial: 3, Held: []api.Held{held("one", 1)}}, site()
	for _, had := range []bool{false, true} {
		seen := map[bool]int{}
		for steps := 0; ; steps++ {
			done := false
			for keep := -1; keep <= 4; keep++ {
				for torn := -1; torn <= len(told(t, s))+1; torn += 7 {
					done = fallInSave(t, had, elder, s, steps, keep, torn, seen)
				}
			}
			if done {
				break
			}
		}
		if seen[false] == 0 || seen[true] == 0 {
			t.Errorf("had %v: the elder %d times, the new one %d times", had, seen[false], seen[true])
		}
	}
}

// fallInSave of s behind so many steps: was it done?
func fallInSave(t *testing.T, had bool, elder, s api.State, steps, keep, torn int, seen map[bool]int) bool {
	t.Helper()
	d := disk.New()
	ahead := ""
	if had {
		good(t, state.Save(d, "web", elder))
		ahead = told(t, elder)
	}
	good(t, state.Save(d, "other", elder))
	d.Arm(steps)
	err := state.Save(d, "web", s)
	if err != nil && (err != api.ErrDown || !d.Down()) {
		t.Fatalf("Save with %d steps left = %v", steps, err)
	}
	d.Restart(keep, torn)
	data, readErr := d.Read("state.web")
	isNew := data == told(t, s)
	seen[isNew]++
	if err == nil && !isNew || !isNew && data != ahead || (readErr == api.ErrNone) != (data == "") {
		t.Errorf("%d steps, %v, Restart(%d, %d): the file has %q, %v", steps, err, keep, torn, data, readErr)
	}
	loads(t, d, "other", elder)
	good(t, state.Save(d, "other", s))
	loads(t, d, "other", s)
	good(t, state.Save(d, "web", s))
	loads(t, d, "web", s)
	if l := files(t, d); len(l) != 2 {
		t.Errorf("files: %q", l)
	}
	return err == nil
}
